import Derived.Test.YtbmfipjnfbnjgaaShare
import Derived.Test.YtbmfipjnfbnjgaaChance
import Derived.Test.YtbmfipjnfbnjgaaSeqE
import Derived.WalkMore
set_option linter.unusedSimpArgs false
set_option linter.unusedVariables false
namespace Go.Proofs.Ytbmfipjnfbnjgaa
open Go Go.Proofs Go.RowKit Go.Sample Go.Seq
theorem red_mul {a b : Nat} (hb : 1 ≤ b) : rN a b * Nat.gcd a b = a ∧ rD a b * Nat.gcd a b = b ∧ 1 ≤ Nat.gcd a b ∧ 1 ≤ rD a b := by
  have hg : 0 < Nat.gcd a b := Nat.gcd_pos_of_pos_right _ (by omega)
  have h2 := Nat.div_mul_cancel (Nat.gcd_dvd_right a b)
  refine ⟨Nat.div_mul_cancel (Nat.gcd_dvd_left a b), h2, hg, ?_⟩
  rcases Nat.eq_zero_or_pos (rD a b) with h | h
  · unfold rD at h; rw [h] at h2; omega
  · exact h
theorem red_le (a b : Nat) : rN a b ≤ a ∧ rD a b ≤ b := ⟨Nat.div_le_self _ _, Nat.div_le_self _ _⟩
theorem red_less_right {p q a b : Nat} (hb : 1 ≤ b) : p * rD a b < rN a b * q ↔ p * b < a * q := by
  obtain ⟨h1, h2, h3, _⟩ := red_mul (a := a) hb
  generalize Nat.gcd a b = g at *
  generalize rN a b = x at *
  generalize rD a b = y at *
  subst h1 h2
  rw [show p * (y * g) = p * y * g by rw [Nat.mul_assoc], show x * g * q = x * q * g by rw [Nat.mul_right_comm]]
  exact ⟨fun h => Nat.mul_lt_mul_of_pos_right h h3, fun h => Nat.lt_of_mul_lt_mul_right h⟩
theorem red_less_left {p q a b : Nat} (hb : 1 ≤ b) : rN a b * q < p * rD a b ↔ a * q < p * b := by
  obtain ⟨h1, h2, h3, _⟩ := red_mul (a := a) hb
  generalize Nat.gcd a b = g at *
  generalize rN a b = x at *
  generalize rD a b = y at *
  subst h1 h2
  rw [show p * (y * g) = p * y * g by rw [Nat.mul_assoc], show x * g * q = x * q * g by rw [Nat.mul_right_comm]]
  exact ⟨fun h => Nat.mul_lt_mul_of_pos_right h h3, fun h => Nat.lt_of_mul_lt_mul_right h⟩
section
variable (N good bad a1 b1 a2 b2 : Nat)
def Much (n c : Nat) : Prop := a2 * ch N bad < acc n (N - n) bad (c + 1) * b2
def Fewer (n c : Nat) : Prop := acc n (N - n) good (c + 1) * b1 < a1 * ch N good
def Enuf (n c : Nat) : Prop := ¬ Much N bad a2 b2 n c ∧ ¬ Fewer N good a1 b1 n c
/-- No plan that comes before n, c is enough. -/
def Before (n c : Nat) : Prop := ∀ n' c', c' < n' → n' ≤ N → (n' < n ∨ n' = n ∧ c' < c) → ¬ Enuf N good bad a1 b1 a2 b2 n' c'
theorem Much.mono {N bad a2 b2 n c c' : Nat} (h : Much N bad a2 b2 n c) (hc : c ≤ c') : Much N bad a2 b2 n c' := by
  unfold Much at *
  exact Nat.lt_of_lt_of_le h (Nat.mul_le_mul_right _ (acc_mono n (N - n) bad (by omega)))
/-- What Plan answers. -/
inductive PlanIs : Nat → Nat → Nat → Prop
  | found {n c : Nat} : 1 ≤ n → n ≤ N → c < n → Enuf N good bad a1 b1 a2 b2 n c → Before N good bad a1 b1 a2 b2 n c → PlanIs n c 0
  | none : Before N good bad a1 b1 a2 b2 (N + 1) 0 → PlanIs 0 0 6
end
section
variable {N good bad a1 b1 a2 b2 : Nat}
theorem PlanIs.eq_found {x y e n c : Nat} (h : PlanIs N good bad a1 b1 a2 b2 x y e) (h1 : 1 ≤ n) (h2 : n ≤ N) (h3 : c < n) (h4 : Enuf N good bad a1 b1 a2 b2 n c) (h5 : Before N good bad a1 b1 a2 b2 n c) : x = n ∧ y = c ∧ e = 0 := by
  cases h with
  | found k1 k2 k3 k4 k5 =>
    rcases Nat.lt_trichotomy x n with h | h | h
    · exact absurd k4 (h5 x y k3 k2 (.inl h))
    · subst h
      rcases Nat.lt_trichotomy y c with h | h | h
      · exact absurd k4 (h5 _ y k3 k2 (.inr ⟨rfl, h⟩))
      · exact ⟨rfl, h, rfl⟩
      · exact absurd h4 (k5 _ c h3 h2 (.inr ⟨rfl, h⟩))
    · exact absurd h4 (k5 n c h3 h2 (.inl h))
  | none k => exact absurd h4 (k n c h3 h2 (.inl (by omega)))
theorem PlanIs.eq_none {x y e : Nat} (h : PlanIs N good bad a1 b1 a2 b2 x y e) (h5 : Before N good bad a1 b1 a2 b2 (N + 1) 0) : x = 0 ∧ y = 0 ∧ e = 6 := by
  cases h with
  | found k1 k2 k3 k4 k5 => exact absurd k4 (h5 x y k3 k2 (.inl (by omega)))
  | none k => exact ⟨rfl, rfl, rfl⟩
theorem Before.next {n c : Nat} (h : Before N good bad a1 b1 a2 b2 n c) (h2 : ¬ Enuf N good bad a1 b1 a2 b2 n c) : Before N good bad a1 b1 a2 b2 n (c + 1) := by
  intro n' c' k1 k2 k3
  rcases k3 with k | ⟨rfl, k⟩
  · exact h n' c' k1 k2 (.inl k)
  · by_cases e : c' = c
    · subst e; exact h2
    · exact h _ c' k1 k2 (.inr ⟨rfl, by omega⟩)
theorem Before.row {n : Nat} (h : Before N good bad a1 b1 a2 b2 n n) : Before N good bad a1 b1 a2 b2 (n + 1) 0 := by
  intro n' c' k1 k2 k3
  rcases k3 with k | ⟨rfl, k⟩
  · by_cases e : n' = n
    · subst e; exact h _ c' k1 k2 (.inr ⟨rfl, k1⟩)
    · exact h n' c' k1 k2 (.inl (by omega))
  · omega
theorem Before.much {n c : Nat} (h : Before N good bad a1 b1 a2 b2 n c) (h2 : Much N bad a2 b2 n c) : Before N good bad a1 b1 a2 b2 (n + 1) 0 := by
  intro n' c' k1 k2 k3
  rcases k3 with k | ⟨rfl, k⟩
  · by_cases e : n' = n
    · subst e
      by_cases e2 : c' < c
      · exact h _ c' k1 k2 (.inr ⟨rfl, e2⟩)
      · exact fun he => he.1 (h2.mono (by omega))
    · exact h n' c' k1 k2 (.inl (by omega))
  · omega
end
structure PlanR (w : World) (N : Nat) (G : Nat) (a1 b1 a2 b2 x y : Int) (W : World) : Prop where
  P : Pieces W (w.heap.size + 2) N
  o8 : Own2 W w.heap.size (.int .i64 a1) (.int .i64 b1)
  o9 : Own2 W (w.heap.size + 1) (.int .i64 a2) (.int .i64 b2)
  o15 : Own2 W G (.int .i64 x) (.int .i64 y)
  bw : Below w.heap.size w W
theorem PlanR.after {w W W' : World} {N G : Nat} {a1 b1 a2 b2 x y : Int} (h : PlanR w N G a1 b1 a2 b2 x y W) (hb : Below W.heap.size W W') : PlanR w N G a1 b1 a2 b2 x y W' :=
  ⟨h.P.below hb h.P.lt, h.o8.after hb, h.o9.after hb, h.o15.after hb, h.bw.trans (hb.mono h.bw.size)⟩
structure PlanS (w : World) (N G H : Nat) (a1 b1 a2 b2 n c : Int) (W : World) : Prop where
  own : Own2 W H (.int .i64 n) (.int .i64 c)
  r : PlanR w N G a1 b1 a2 b2 0 0 W
theorem PlanS.after {w W W' : World} {N G H : Nat} {a1 b1 a2 b2 n c : Int} (h : PlanS w N G H a1 b1 a2 b2 n c W) (hb : Below W.heap.size W W') : PlanS w N G H a1 b1 a2 b2 n c W' := ⟨h.own.after hb, h.r.after hb⟩
set_option maxHeartbeats 2000000 in
set_option maxRecDepth 100000 in
theorem plan_any {N good bad a1 b1 a2 b2 rn rc re : Nat} (h1 : 1 ≤ N) (h36 : N ≤ 36) (hg : good ≤ N) (hb : bad ≤ N) (hs1 : ShareOk a1 b1) (hs2 : ShareOk a2 b2) (hres : PlanIs N good bad a1 b1 a2 b2 rn rc re) (w : World) :
    Calls Try.prog 37 #[.int .i64 N, .int .i64 good, .int .i64 bad, fracV a1 b1, fracV a2 b2] w fun e w' => e = .returned (.tuple #[.int .i64 rn, .int .i64 rc, .int .i64 re]) ∧ Below w.heap.size w w' := by
  have hmx : Try.prog.follows .mixedOrders = true := by kernel_rfl
  have hr := fun w => readBad_any (z := (bad : Int)) h1 h36 ⟨by omega, by omega⟩ w
  rw [decide_eq_true (by omega)] at hr
  have hhas := fun W (h : Pieces W (w.heap.size + 2) N) => has_any (z := (good : Int)) h ⟨by omega, by omega⟩
  have ed : decide ((0 : Int) ≤ (good : Int) ∧ (good : Int) ≤ (N : Int)) = true := decide_eq_true (by omega)
  have A1 : (b1 : Int) ≤ 1000 := hs1.2.2.2.1
  have A2 : (b2 : Int) ≤ 1000 := hs2.2.2.2.1
  have A3 : (a1 : Int) ≤ (b1 : Int) := hs1.2.1
  have A4 : (a2 : Int) ≤ (b2 : Int) := hs2.2.1
  have hc1 := fun w => isChance_any (n := (a1 : Int)) (d := (b1 : Int)) ⟨by omega, by omega⟩ ⟨by omega, by omega⟩ w
  have hc2 := fun w => isChance_any (n := (a2 : Int)) (d := (b2 : Int)) ⟨by omega, by omega⟩ ⟨by omega, by omega⟩ w
  rw [decide_eq_true hs1] at hc1
  rw [decide_eq_true hs2] at hc2
  simp only [ed] at hhas
  have hO1 : Own2 (w.alloc (.cells #[.int .i64 a1, .int .i64 b1] 27)) w.heap.size (.int .i64 a1) (.int .i64 b1) := Own2.new _ _ _ _
  obtain ⟨wa, hwa⟩ : ∃ wa, w.alloc (.cells #[.int .i64 a1, .int .i64 b1] 27) = wa := ⟨_, rfl⟩
  obtain ⟨w0, hw0⟩ : ∃ w0, wa.alloc (.cells #[.int .i64 a2, .int .i64 b2] 27) = w0 := ⟨_, rfl⟩
  have sa : wa.heap.size = w.heap.size + 1 := by rw [← hwa]; simp
  have s0 : w0.heap.size = w.heap.size + 2 := by rw [← hw0]; simp [sa]
  have ba : Below w.heap.size w wa := by rw [← hwa]; exact (Below.refl _ _).alloc (Nat.le_refl _) _
  have b0 : Below wa.heap.size wa w0 := by rw [← hw0]; exact (Below.refl _ _).alloc (Nat.le_refl _) _
  rw [hwa] at hO1
  have hO1 := hO1.after b0
  have hO2 : Own2 w0 (w.heap.size + 1) (.int .i64 a2) (.int .i64 b2) := by
    rw [← hw0, ← sa]; exact Own2.new wa _ _ _
  have bw0 : Below w.heap.size w w0 := ba.trans (b0.mono (by omega))
  have hw0' : (w.alloc (.cells #[.int .i64 a1, .int .i64 b1] 27)).alloc (.cells #[.int .i64 a2, .int .i64 b2] 27) = w0 := by rw [hwa, hw0]
  have hr0 := hr w0
  rw [s0] at hr0
  have s0k := Keep.mk s0
  clear hwa hw0 sa ba b0 hr s0
  unfold fracV at *
  go_enter Try.func37, Try.ntmps37
  go_wp2
  go_step3
  go_wp2_with (first
    | (go_at_call 52; refine hr0.mono ?_; rintro e w5 ⟨rfl, hb5, hP5⟩
       rw [← s0k.out] at hb5
       obtain ⟨o0, o1, o2, o3⟩ := hO1.after hb5
       obtain ⟨p0, p1, p2, p3⟩ := hO2.after hb5
       have hbw5 := bw0.trans (hb5.mono bw0.size)
       clear hb5 hr0)
    | (go_at_call 54; refine (hhas _ hP5).mono ?_; rintro e w6 ⟨rfl, rfl⟩)
    | (go_at_call 67; (with_reducible refine (hc1 _).mono ?_); rintro e w7 ⟨rfl, hb7⟩
       obtain ⟨o0, o1, o2, o3⟩ := (⟨o0, o1, o2, o3⟩ : Own2 _ w.heap.size _ _).after hb7
       obtain ⟨p0, p1, p2, p3⟩ := (⟨p0, p1, p2, p3⟩ : Own2 _ (w.heap.size + 1) _ _).after hb7
       have hbw7 := hbw5.trans (hb7.mono hbw5.size)
       have hP7 := hP5.below hb7 hP5.lt
       clear hb7 hc1)
    | (go_at_call 67; (with_reducible refine (hc2 _).mono ?_); rintro e w8 ⟨rfl, hb8⟩
       have o8 := (⟨o0, o1, o2, o3⟩ : Own2 _ w.heap.size _ _).after hb8
       have p8 := (⟨p0, p1, p2, p3⟩ : Own2 _ (w.heap.size + 1) _ _).after hb8
       have hbw8 := hbw7.trans (hb8.mono hbw7.size)
       have hP8 := hP7.below hb8 hP7.lt
       clear hb8 hc2 hbw7 hP7 hbw5 hP5 o0 o1 o2 o3 p0 p1 p2 p3))
  go_step3
  go_wp2
  obtain ⟨G, hG⟩ : ∃ G, w8.heap.size = G := ⟨_, rfl⟩
  have hR0 : PlanR w N G a1 b1 a2 b2 0 0 (w8.alloc (.cells #[.int .i64 0, .int .i64 0] 96)) := by
    have hb8 : Below w8.heap.size w8 (w8.alloc (.cells #[.int .i64 0, .int .i64 0] 96)) := (Below.refl _ _).alloc (Nat.le_refl _) _
    exact ⟨hP8.below hb8 hP8.lt, o8.after hb8, p8.after hb8, by rw [← hG]; exact Own2.new _ _ _ _, hbw8.trans (hb8.mono hbw8.size)⟩
  have hGw : Keep (w.heap.size + 2 < G) := ⟨by rw [← hG]; exact hP8.lt⟩
  rw [hG]
  have hresk := Keep.mk hres
  clear hres hG o8 p8 hbw8 hP8 hhas ed hw0' bw0 hO1 hO2
  go_loopw [16] (fun t wr => ∃ n : Nat, 1 ≤ n ∧ n ≤ N + 1 ∧ t = .int .i64 n ∧ Keep (Before N good bad a1 b1 a2 b2 n 0) ∧ PlanR w N G a1 b1 a2 b2 0 0 wr) (fun t _ => N + 1 - (intOf t).toNat)
  case atStart => exact ⟨1, by omega, by omega, rfl, ⟨fun n' c' h1 h2 h3 => by omega⟩, hR0⟩
  case round =>
    obtain ⟨n, hn1, hn2, rfl, hbef, hR⟩ := hrel
    by_cases hnN : n ≤ N
    · have hnN' : (n : Int) ≤ (N : Int) := by omega
      go_wp2
      go_loopw [49] (fun t wr => ∃ c : Nat, c ≤ n ∧ t = .int .i64 c ∧ Keep (Before N good bad a1 b1 a2 b2 n c) ∧ PlanR w N G a1 b1 a2 b2 0 0 wr) (fun t _ => n - (intOf t).toNat)
      case atStart => exact ⟨0, by omega, rfl, hbef, hR⟩
      case round =>
        obtain ⟨c, hc, rfl, hbef2, hR2⟩ := hrel
        by_cases hcn : c < n
        · have hcn' : (c : Int) < (n : Int) := by omega
          have hch2 := fun W (h : Pieces W (w.heap.size + 2) N) => chance_any h hcn hnN hb
          have hch1 := fun W (h : Pieces W (w.heap.size + 2) N) => chance_any h hcn hnN hg
          have p1 := ch_pos hb
          have p2 := ch_pos hg
          have q1 := ch_le h36 bad
          have q2 := ch_le h36 good
          have hX := acc_le n (N - n) bad (c + 1)
          have hY := acc_le n (N - n) good (c + 1)
          rw [show n + (N - n) = N by omega] at hX hY
          have hmuch : Keep (Much N bad a2 b2 n c ↔ a2 * ch N bad < acc n (N - n) bad (c + 1) * b2) := ⟨Iff.rfl⟩
          have hfew : Keep (Fewer N good a1 b1 n c ↔ acc n (N - n) good (c + 1) * b1 < a1 * ch N good) := ⟨Iff.rfl⟩
          generalize acc n (N - n) bad (c + 1) = X at *
          generalize acc n (N - n) good (c + 1) = Y at *
          generalize ch N bad = D2 at *
          generalize ch N good = D1 at *
          have k1 := Keep.mk (red_less_right (p := a2) (q := b2) (a := X) p1)
          have k2 := Keep.mk (red_less_left (p := a1) (q := b1) (a := Y) p2)
          obtain ⟨z1, z2⟩ := red_le X D2
          obtain ⟨z3, z4⟩ := red_le Y D1
          obtain ⟨M, hM⟩ : ∃ M, Keep (decide (a2 * rD X D2 < rN X D2 * b2) = M) := ⟨_, ⟨rfl⟩⟩
          obtain ⟨F, hF⟩ : ∃ F, Keep (decide (rN Y D1 * b1 < a1 * rD Y D1) = F) := ⟨_, ⟨rfl⟩⟩
          have hl2 := fun W => less_any (a := a2) (b := b2) (c := rN X D2) (d := rD X D2) (by omega) (by omega) (by omega) (by omega) W
          have hl1 := fun W => less_any (a := rN Y D1) (b := rD Y D1) (c := a1) (d := b1) (by omega) (by omega) (by omega) (by omega) W
          simp only [hM.out] at hl2
          simp only [hF.out] at hl1
          have hMk : Keep (M = true ↔ Much N bad a2 b2 n c) := ⟨by rw [hmuch.out, ← k1.out, ← hM.out, decide_eq_true_eq]⟩
          have hFk : Keep (F = true ↔ Fewer N good a1 b1 n c) := ⟨by rw [hfew.out, ← k2.out, ← hF.out, decide_eq_true_eq]⟩
          clear z1 z2 z3 z4 p1 p2 q1 q2 hX hY
          have hbefk := hbef2
          go_wp2
          have hb2 : Below wr.heap.size wr (wr.alloc (.cells #[.int .i64 n, .int .i64 c] 96)) := (Below.refl _ _).alloc (Nat.le_refl _) _
          obtain ⟨H, hH⟩ : ∃ H, wr.heap.size = H := ⟨_, rfl⟩
          have hR3 := hR2.after hb2
          have hOH : Own2 (wr.alloc (.cells #[.int .i64 n, .int .i64 c] 96)) H (.int .i64 n) (.int .i64 c) := by rw [← hH]; exact Own2.new _ _ _ _
          rw [hH]
          clear hb2 hH hR2
          generalize wr.alloc (.cells #[.int .i64 n, .int .i64 c] 96) = W3 at *
          have hS3 : PlanS w N G H a1 b1 a2 b2 n c W3 := ⟨hOH, hR3⟩
          clear hOH hR3
          refine (wpIn_wide (n := 0)).1 ?_
          refine Many.region_many (fun _ W => PlanS w N G H a1 b1 a2 b2 n c W) hmx (by kernel_rfl) (fun s s' W' h hc => hc) (fun s hs => hS3.after ((Below.refl _ _).drew)) ?_
          refine Many.lex_want (by rfl) (Many.tr_read (v := .agg #[.int .i64 a2, .int .i64 b2]) (PlanS w N G H a1 b1 a2 b2 n c) (fun s W h => h) (fun s W h => h) (fun W ⟨⟨u0, u1, u2, u3⟩, ⟨hP, ⟨x0, x1, x2, x3⟩, ⟨y0, y1, y2, y3⟩, _, _⟩⟩ => by (go_simp; try rfl))) ?_
          simp only [Act.put, List.setIfInBounds_toArray, List.set_cons_succ, List.set_cons_zero, Nat.reduceAdd]
          refine Many.lex_want (by rfl) (Many.tr_read (v := .pointer (some ⟨w.heap.size + 2, 0, none⟩)) (PlanS w N G H a1 b1 a2 b2 n c) (fun s W h => h) (fun s W h => h) (fun W ⟨⟨u0, u1, u2, u3⟩, ⟨hP, ⟨x0, x1, x2, x3⟩, ⟨y0, y1, y2, y3⟩, _, _⟩⟩ => by (go_simp; try rfl))) ?_
          simp only [Act.put, List.setIfInBounds_toArray, List.set_cons_succ, List.set_cons_zero, Nat.reduceAdd]
          refine Many.lex_want (by rfl) (Many.tr_read (v := .int .i64 bad) (PlanS w N G H a1 b1 a2 b2 n c) (fun s W h => h) (fun s W h => h) (fun W ⟨⟨u0, u1, u2, u3⟩, ⟨hP, ⟨x0, x1, x2, x3⟩, ⟨y0, y1, y2, y3⟩, _, _⟩⟩ => by (go_simp; try rfl))) ?_
          simp only [Act.put, List.setIfInBounds_toArray, List.set_cons_succ, List.set_cons_zero, Nat.reduceAdd]
          refine Many.lex_want (by rfl) (Many.tr_read (v := .agg #[.int .i64 n, .int .i64 c]) (PlanS w N G H a1 b1 a2 b2 n c) (fun s W h => h) (fun s W h => h) (fun W ⟨⟨u0, u1, u2, u3⟩, ⟨hP, ⟨x0, x1, x2, x3⟩, ⟨y0, y1, y2, y3⟩, _, _⟩⟩ => by (go_simp; try rfl))) ?_
          simp only [Act.put, List.setIfInBounds_toArray, List.set_cons_succ, List.set_cons_zero, Nat.reduceAdd]
          refine Many.lex_want (by rfl) (Many.tr_call (v := redV X D2) (f := 55) (args := #[.pointer (some ⟨w.heap.size + 2, 0, none⟩), .int .i64 bad, planV n c]) (PlanS w N G H a1 b1 a2 b2 n c) (fun s W h => h) (fun s W h => (hch2 W h.r.P).mono fun e w' q => ⟨q.1, h.after q.2⟩) (fun W h => by (unfold planV; go_simp; try rfl))) ?_
          simp only [Act.put, List.setIfInBounds_toArray, List.set_cons_succ, List.set_cons_zero, Nat.reduceAdd]
          refine Many.lex_want (by rfl) (Many.tr_call (v := .bool M) (f := 68) (args := #[fracV a2 b2, redV X D2]) (PlanS w N G H a1 b1 a2 b2 n c) (fun s W h => h) (fun s W h => (hl2 W).mono fun e w' q => ⟨q.1, h.after q.2⟩) (fun W h => by (unfold redV fracV; go_simp; try rfl))) ?_
          simp only [Act.put, List.setIfInBounds_toArray, List.set_cons_succ, List.set_cons_zero, Nat.reduceAdd]
          refine Many.lex_nil fun s W4 hs hS4 => ?_
          clear hS3 hs
          by_cases hMt : M = true
          · have hmm := Keep.mk (hMk.out.1 hMt)
            subst hMt
            go_wp2
            exact ⟨⟨n + 1, by omega, by omega, by go_num, ⟨hbefk.out.much hmm.out⟩, hS4.r⟩, by simp [intOf]; omega⟩
          · have hMf : M = false := by simpa using hMt
            have hmm := fun h => hMt (hMk.out.2 h)
            have hmk := Keep.mk hmm
            subst hMf
            clear hMt hmm hMk
            go_wp2
            refine (wpIn_wide (n := 0)).1 ?_
            refine Many.region_many (fun _ W => PlanS w N G H a1 b1 a2 b2 n c W) hmx (by kernel_rfl) (fun s s' W' h hc => hc) (fun s hs => hS4.after ((Below.refl _ _).drew)) ?_
            refine Many.lex_want (by rfl) (Many.tr_read (v := .pointer (some ⟨w.heap.size + 2, 0, none⟩)) (PlanS w N G H a1 b1 a2 b2 n c) (fun s W h => h) (fun s W h => h) (fun W ⟨⟨u0, u1, u2, u3⟩, ⟨hP, ⟨x0, x1, x2, x3⟩, ⟨y0, y1, y2, y3⟩, _, _⟩⟩ => by (go_simp; try rfl))) ?_
            simp only [Act.put, List.setIfInBounds_toArray, List.set_cons_succ, List.set_cons_zero, Nat.reduceAdd]
            refine Many.lex_want (by rfl) (Many.tr_read (v := .int .i64 good) (PlanS w N G H a1 b1 a2 b2 n c) (fun s W h => h) (fun s W h => h) (fun W ⟨⟨u0, u1, u2, u3⟩, ⟨hP, ⟨x0, x1, x2, x3⟩, ⟨y0, y1, y2, y3⟩, _, _⟩⟩ => by (go_simp; try rfl))) ?_
            simp only [Act.put, List.setIfInBounds_toArray, List.set_cons_succ, List.set_cons_zero, Nat.reduceAdd]
            refine Many.lex_want (by rfl) (Many.tr_read (v := .agg #[.int .i64 n, .int .i64 c]) (PlanS w N G H a1 b1 a2 b2 n c) (fun s W h => h) (fun s W h => h) (fun W ⟨⟨u0, u1, u2, u3⟩, ⟨hP, ⟨x0, x1, x2, x3⟩, ⟨y0, y1, y2, y3⟩, _, _⟩⟩ => by (go_simp; try rfl))) ?_
            simp only [Act.put, List.setIfInBounds_toArray, List.set_cons_succ, List.set_cons_zero, Nat.reduceAdd]
            refine Many.lex_want (by rfl) (Many.tr_call (v := redV Y D1) (f := 55) (args := #[.pointer (some ⟨w.heap.size + 2, 0, none⟩), .int .i64 good, planV n c]) (PlanS w N G H a1 b1 a2 b2 n c) (fun s W h => h) (fun s W h => (hch1 W h.r.P).mono fun e w' q => ⟨q.1, h.after q.2⟩) (fun W h => by (unfold planV; go_simp; try rfl))) ?_
            simp only [Act.put, List.setIfInBounds_toArray, List.set_cons_succ, List.set_cons_zero, Nat.reduceAdd]
            refine Many.lex_want (by rfl) (Many.tr_read (v := .agg #[.int .i64 a1, .int .i64 b1]) (PlanS w N G H a1 b1 a2 b2 n c) (fun s W h => h) (fun s W h => h) (fun W ⟨⟨u0, u1, u2, u3⟩, ⟨hP, ⟨x0, x1, x2, x3⟩, ⟨y0, y1, y2, y3⟩, _, _⟩⟩ => by (go_simp; try rfl))) ?_
            simp only [Act.put, List.setIfInBounds_toArray, List.set_cons_succ, List.set_cons_zero, Nat.reduceAdd]
            refine Many.lex_want (by rfl) (Many.tr_call (v := .bool F) (f := 68) (args := #[redV Y D1, fracV a1 b1]) (PlanS w N G H a1 b1 a2 b2 n c) (fun s W h => h) (fun s W h => (hl1 W).mono fun e w' q => ⟨q.1, h.after q.2⟩) (fun W h => by (unfold redV fracV; go_simp; try rfl))) ?_
            simp only [Act.put, List.setIfInBounds_toArray, List.set_cons_succ, List.set_cons_zero, Nat.reduceAdd]
            refine Many.lex_want (by rfl) (Many.tr_read (v := .bool (!F)) (PlanS w N G H a1 b1 a2 b2 n c) (fun s W h => h) (fun s W h => h) (fun W ⟨⟨u0, u1, u2, u3⟩, ⟨hP, ⟨x0, x1, x2, x3⟩, ⟨y0, y1, y2, y3⟩, _, _⟩⟩ => by (go_simp; try rfl))) ?_
            simp only [Act.put, List.setIfInBounds_toArray, List.set_cons_succ, List.set_cons_zero, Nat.reduceAdd]
            refine Many.lex_nil fun s W5 hs hS5 => ?_
            clear hS4 hs
            cases F with
            | true =>
              have hff := Keep.mk (hFk.out.1 rfl)
              go_wp2
              exact ⟨⟨c + 1, by omega, by go_num, ⟨hbefk.out.next (fun he => he.2 hff.out)⟩, hS5.r⟩, by simp [intOf]; omega⟩
            | false =>
              have hff : Keep (¬ Fewer N good a1 b1 n c) := ⟨fun h => by have := hFk.out.2 h; cases this⟩
              have hfin := hresk.out.eq_found hn1 hnN hcn ⟨hmk.out, hff.out⟩ hbefk.out
              obtain ⟨rfl, rfl, rfl⟩ := hfin
              obtain ⟨⟨u0, u1, u2, u3⟩, ⟨_, _, _, ⟨v0, v1, v2, v3⟩, hbw⟩⟩ := hS5
              have hGw1 : w.heap.size ≤ G := by have := hGw.out; omega
              have e96 := fun w => eq96 rn rc 0 0 w
              have e0 : ((rn : Int) == 0) = false := by rw [beq_eq_false_iff_ne]; omega
              simp only [e0, Bool.false_and] at e96
              go_wp2
              go_quiet (fail)
              go_wp2
              try rw [Exit.noGoto_ret]
              refine bodyPost_ret (v := .tuple #[.int .i64 rn, .int .i64 rc, .int .i64 (0 : Nat)]) (by simp [results, Try.results37, go_sem]) rfl ?_
              exact ⟨rfl, by first | exact (hbw.setCell (p := ⟨G, 0, none⟩) hGw1 _).setCell (p := ⟨G, 1, none⟩) hGw1 _ | exact below_drewN ((hbw.setCell (p := ⟨G, 0, none⟩) hGw1 _).setCell (p := ⟨G, 1, none⟩) hGw1 _) _⟩
        · obtain rfl : c = n := by omega
          go_wp2
          exact ⟨⟨c + 1, by omega, by omega, by go_num, ⟨hbef2.out.row⟩, hR2⟩, by simp [intOf]; omega⟩
    · obtain rfl : n = N + 1 := by omega
      have hnN' : ¬ ((N + 1 : Nat) : Int) ≤ (N : Int) := by omega
      have hfin := hresk.out.eq_none hbef.out
      obtain ⟨rfl, rfl, rfl⟩ := hfin
      obtain ⟨_, _, _, ⟨v0, v1, v2, v3⟩, hbw⟩ := hR
      have e96 := fun w => eq96 0 0 0 0 w
      go_wp2
      try rw [Exit.noGoto_ret]
      refine bodyPost_ret (v := .tuple #[.int .i64 (0 : Nat), .int .i64 (0 : Nat), .int .i64 (6 : Nat)]) (by simp [results, Try.results37, go_sem]) rfl ?_
      exact ⟨rfl, hbw⟩
end Go.Proofs.Ytbmfipjnfbnjgaa

import Derived.Test.YteekigpdiklppaaWEq
import Derived.Test.YteekigpdiklppaaSeqK
set_option linter.unusedSimpArgs false
set_option linter.unusedVariables false
namespace Go.Proofs.Yteekigpdiklppaa
open Go Go.Proofs Go.RowKit Go.Seq
attribute [local go_sem] Oper.semAt_some
/-- A set stored into a variable. -/
def st12 (W : World) (b : Nat) (F : Nat → Bool) : World := ((((((((((((W.setCell ⟨b, 0, none⟩ (.bool (F 0))).setCell ⟨b, 1, none⟩ (.bool (F 1))).setCell ⟨b, 2, none⟩ (.bool (F 2))).setCell ⟨b, 3, none⟩ (.bool (F 3))).setCell ⟨b, 4, none⟩ (.bool (F 4))).setCell ⟨b, 5, none⟩ (.bool (F 5))).setCell ⟨b, 6, none⟩ (.bool (F 6))).setCell ⟨b, 7, none⟩ (.bool (F 7))).setCell ⟨b, 8, none⟩ (.bool (F 8))).setCell ⟨b, 9, none⟩ (.bool (F 9))).setCell ⟨b, 10, none⟩ (.bool (F 10))).setCell ⟨b, 11, none⟩ (.bool (F 11)))
theorem st12_heap (W : World) (b : Nat) (F : Nat → Bool) {i : Nat} (h : i ≠ b) : (st12 W b F).heap[i]? = W.heap[i]? := by
  unfold st12
  iterate 12 (rw [Below.heap_setCell _ _ _ _ (by exact h)])
theorem st12_size (W : World) (b : Nat) (F : Nat → Bool) : (st12 W b F).heap.size = W.heap.size := by
  unfold st12
  simp [World.setCell]
theorem st12_below {w W : World} {B b : Nat} {F : Nat → Bool} (h : Below B w W) (hb : B ≤ b) : Below B w (st12 W b F) := by
  unfold st12
  iterate 12 (refine Below.setCell ?_ (by exact hb) _)
  exact h
theorem st12_set {W : World} {b : Nat} {s F : Nat → Bool} (h : SetAt W b s) : SetAt (st12 W b F) b F := by
  unfold st12
  exact h.store12
theorem st12_keepsV {pv : Nat → Prop} {A W : World} {b : Nat} {F : Nat → Bool} (h : Pv.KeepsV pv A W) (hb : pv b) : Pv.KeepsV pv A (st12 W b F) := by
  unfold st12
  iterate 12 (refine Pv.KeepsV.setCell ?_ (by exact hb) _)
  exact h
/-- A function value that makes a round. -/
structure Rnd (f : Nat) (bd cp : Array Value) (rd : (Nat → Bool) → Nat → Bool) (R : World → Prop) : Prop where
  eg : ∀ (args : Array Value) (w : World), (callFunc f args).run Try.prog w = .ok (.enter f args) w
  call : ∀ s W, R W → Calls Try.prog f (bd.push (setV s) ++ cp) W fun e W' => e = .returned (setV (rd s)) ∧ Below W.heap.size W W'
/-- What is wet behind so many rounds. -/
def stg (rd : (Nat → Bool) → Nat → Bool) (s : Nat → Bool) : Nat → Nat → Bool
  | 0 => s
  | i + 1 => rd (stg rd s i)
def eqb (F G : Nat → Bool) : Bool := (List.range 12).all fun k => F k == G k
/-- The rounds until nothing changes. -/
structure Stops (rd : (Nat → Bool) → Nat → Bool) (s : Nat → Bool) (K : Nat) : Prop where
  le : K ≤ 100
  last : eqb (stg rd s (K + 1)) (stg rd s K) = true
  less : ∀ i, i < K → eqb (stg rd s (i + 1)) (stg rd s i) = false
def stgs (rd : (Nat → Bool) → Nat → Bool) (s : Nat → Bool) (k : Nat) : List (Nat × (Nat → Bool)) := (List.range k).map fun i => (i, stg rd s i)
theorem stgs_succ (rd : (Nat → Bool) → Nat → Bool) (s : Nat → Bool) (k : Nat) : stgs rd s (k + 1) = stgs rd s k ++ [(k, stg rd s k)] := by
  unfold stgs
  rw [List.range_succ, List.map_append]; rfl
theorem stgs_rest (rd : (Nat → Bool) → Nat → Bool) (s : Nat → Bool) {k : Nat} : ∀ {M}, k < M → ∃ rest, stgs rd s M = stgs rd s k ++ (k, stg rd s k) :: rest
  | 0, h => by omega
  | M + 1, h => by
    by_cases e : k = M
    · subst e; exact ⟨[], stgs_succ _ _ _⟩
    · obtain ⟨rest, hr⟩ := stgs_rest rd s (k := k) (M := M) (by omega)
      exact ⟨rest ++ [(M, stg rd s M)], by rw [stgs_succ, hr]; simp⟩
def encS (x : Nat × (Nat → Bool)) : Array Value := #[.int .i64 x.1, setV x.2]
theorem Keep2 {p q : Prop} (h : p ∧ q) : p ∧ Keep q := ⟨h.1, ⟨h.2⟩⟩
set_option maxHeartbeats 2000000 in
set_option maxRecDepth 100000 in
theorem stages_gives {b br K f : Nat} {bd cp : Array Value} {rd : (Nat → Bool) → Nat → Bool} {R : World → Prop} {s : Nat → Bool} (hq : Rnd f bd cp rd R) (hK : Stops rd s K) (W1 : World)
    (hRc : ∀ W, R W → W.cell? ⟨br, 0, none⟩ = some (.func (.func f) bd cp)) (hS : SetAt W1 b s) :
    Pv.GivesV Try.prog 82 #[.pointer (some ⟨b, 0, none⟩), .pointer (some ⟨br, 0, none⟩)] encS (stgs rd s (K + 1)) (fun k => k = b) R W1 := by
  intro l gs J hJ hR hY h0
  have hqk := Keep.mk hq.call
  have hqe := hq.eg
  refine callsIn_of_wp Try.func82 rfl trivial ?_ rfl
  simp only [Try.ntmps82, List.size_toArray, List.length_cons, List.length_nil, Nat.reduceAdd, Nat.reduceSub, Array.replicate_succ, Array.replicate_zero, List.push_toArray, List.append_toArray, List.nil_append, List.cons_append]
  gi_wp2
  gi_loopw [4] (fun i wr => ∃ k : Nat, k ≤ K ∧ i = .int .i64 k ∧ J (stgs rd s k) wr ∧ Stp.going gs (stgs rd s k) ∧ Keep (SetAt wr b (stg rd s k)) ∧ W1.heap.size ≤ wr.heap.size) (fun i _ => K + 1 - (intOf i).toNat)
  case atStart => exact ⟨0, by omega, rfl, by simpa [stgs] using h0, by simpa [stgs] using Stp.going_nil gs, ⟨hS⟩, by simp⟩
  case round =>
    obtain ⟨k, hk, rfl, hj, hgo, ⟨hs⟩, hsz⟩ := hrel
    have hk100 := hK.le
    have hw1 : IntKind.i64.wrap ((k : Int) + 1) = (k : Int) + 1 := IntWalk.i64_in _ (by omega)
    obtain ⟨F, hF⟩ : ∃ F, stg rd s k = F := ⟨_, rfl⟩
    obtain ⟨G, hG⟩ : ∃ G, rd F = G := ⟨_, rfl⟩
    rw [hF] at hs
    obtain ⟨c0, c1, c2, c3, c4, c5, c6, c7, c8, c9, c10, c11⟩ := hs.c12
    obtain ⟨z, hz⟩ : ∃ z, gs (stgs rd s k) (k, F) = z := ⟨_, rfl⟩
    obtain ⟨fn, tmps, assign, body, hy, hRd⟩ := hY (stgs rd s k) (k, F) wr hj hgo hsz (by rw [← hF]; exact stgs_rest rd s (by omega))
    unfold encS setV sc at hy
    have hsk := Keep.mk hs
    clear hs
    simp only [] at hy
    gi_wp2
    clear c0 c1 c2 c3 c4 c5 c6 c7 c8 c9 c10 c11
    refine ⟨rfl, hRd.mono ?_⟩
    rintro e w5 ⟨rfl, hj5, hsz5, hp5, -⟩
    rw [hz]
    have hr5 := hR _ _ hj5
    have hs5 : SetAt w5 b F := (hp5 b rfl).trans hsk.out
    have hp5k := Keep.mk hp5
    have hszk := Keep.mk (Nat.le_trans hsz hsz5)
    clear hp5 hsz5 hy hRd hY
    cases z with
    | false =>
      clear hs5
      obtain ⟨rest, hrest⟩ := stgs_rest rd s (k := k) (M := K + 1) (by omega)
      rw [hF] at hrest
      gi_wp2
      go_end0
      exact ⟨⟨_, rfl⟩, ⟨_, hj5, .inr ⟨stgs rd s k, (k, F), rest, hrest, rfl, hgo, hz⟩⟩, hszk.out⟩
    | true =>
      have hcr := hRc _ hr5
      have q := hqk.out F w5 hr5
      rw [hG] at q
      obtain ⟨d0, d1, d2, d3, d4, d5, d6, d7, d8, d9, d10, d11⟩ := hs5.c12
      have hs5k := Keep.mk hs5
      clear hs5
      obtain ⟨g, hg⟩ : ∃ g, eqb G F = g := ⟨_, rfl⟩
      have heq := fun w => eq49 G F w
      rw [show ((List.range 12).all fun k => G k == F k) = g from hg] at heq
      unfold setV sc at q
      unfold sc at heq
      have hgo5 : Keep (Stp.going gs (stgs rd s (k + 1))) := ⟨by rw [stgs_succ, hF]; exact Stp.going_snoc.2 ⟨hgo, hz⟩⟩
      have hj5k : Keep (J (stgs rd s (k + 1)) w5) := ⟨by rw [stgs_succ, hF]; exact hj5⟩
      clear hj5 hgo hj
      cases g with
      | true =>
        have hkK : k = K := by
          rcases Nat.lt_or_ge k K with h | h
          · have := hK.less k h
            rw [show stg rd s (k + 1) = rd (stg rd s k) from rfl, hF, hG, hg] at this; cases this
          · omega
        gi_wp2_with (refine ⟨trivial, rfl, (callsIn_wide.2 q).mono ?_⟩; rintro e W6 ⟨rfl, hb6⟩
                     obtain ⟨W7, hW7⟩ : ∃ W7, W6.alloc (.cells (sc G) 79) = W7 := ⟨_, rfl⟩
                     have hb7 : Below W6.heap.size W6 W7 := by rw [← hW7]; exact (Below.refl _ _).alloc (Nat.le_refl _) _
                     have hn7 : SetAt W7 W6.heap.size G := by rw [← hW7]; exact SetAt.new _ _
                     have hb57 : Keep (Below w5.heap.size w5 W7) := ⟨hb6.trans (hb7.mono hb6.size)⟩
                     obtain ⟨e0, e1, e2, e3, e4, e5, e6, e7, e8, e9, e10, e11⟩ := (hs5k.out.after hb57.out).c12
                     obtain ⟨n0, n1, n2, n3, n4, n5, n6, n7, n8, n9, n10, n11⟩ := hn7.c12
                     clear hb6 hb7 hn7
                     unfold sc at hW7)
        subst hkK
        refine bodyPost_ret (results_none rfl _ _ _) rfl ?_
        exact ⟨⟨_, rfl⟩, ⟨_, hJ _ _ _ hj5k.out (.of_below hb57.out), .inl ⟨rfl, hgo5.out⟩⟩, Nat.le_trans hszk.out hb57.out.size⟩
      | false =>
        have hkK : k < K := by
          rcases Nat.lt_or_ge k K with h | h
          · exact h
          · have h : k = K := by omega
            subst h
            have := hK.last
            rw [show stg rd s (k + 1) = rd (stg rd s k) from rfl, hF, hG, hg] at this; cases this
        gi_wp2_with (refine ⟨trivial, rfl, (callsIn_wide.2 q).mono ?_⟩; rintro e W6 ⟨rfl, hb6⟩
                     obtain ⟨W7, hW7⟩ : ∃ W7, W6.alloc (.cells (sc G) 79) = W7 := ⟨_, rfl⟩
                     have hb7 : Below W6.heap.size W6 W7 := by rw [← hW7]; exact (Below.refl _ _).alloc (Nat.le_refl _) _
                     have hn7 : SetAt W7 W6.heap.size G := by rw [← hW7]; exact SetAt.new _ _
                     have hb57 : Keep (Below w5.heap.size w5 W7) := ⟨hb6.trans (hb7.mono hb6.size)⟩
                     obtain ⟨e0, e1, e2, e3, e4, e5, e6, e7, e8, e9, e10, e11⟩ := (hs5k.out.after hb57.out).c12
                     obtain ⟨g0, g1, g2, g3, g4, g5, g6, g7, g8, g9, g10, g11⟩ := (hs5k.out.after hb57.out).f12
                     obtain ⟨n0, n1, n2, n3, n4, n5, n6, n7, n8, n9, n10, n11⟩ := hn7.c12
                     clear hb6 hb7 hn7
                     unfold sc at hW7)
        have hj7 := hJ _ _ _ hj5k.out (.of_below hb57.out)
        have hs7 := hs5k.out.after hb57.out
        have hj8 : J (stgs rd s (k + 1)) (st12 W7 b G) := hJ _ _ _ hj7 (st12_keepsV (Pv.KeepsV.refl _ _) rfl)
        have hs8 : SetAt (st12 W7 b G) b (stg rd s (k + 1)) := by
          rw [show stg rd s (k + 1) = G by rw [show stg rd s (k + 1) = rd (stg rd s k) from rfl, hF, hG]]; exact st12_set hs7
        have hz8 : W1.heap.size ≤ (st12 W7 b G).heap.size := by rw [st12_size]; exact Nat.le_trans hszk.out hb57.out.size
        unfold st12 at hj8 hs8 hz8
        exact ⟨⟨k + 1, by omega, by go_num, hj8, hgo5.out, ⟨hs8⟩, hz8⟩, by simp [intOf]; omega⟩
end Go.Proofs.Yteekigpdiklppaa

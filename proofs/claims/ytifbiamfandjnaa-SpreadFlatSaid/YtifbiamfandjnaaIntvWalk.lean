import Derived.Test.YtifbiamfandjnaaIntvFn
import Derived.Test.YtifbiamfandjnaaSeqE
import Derived.Deep.RegionHeld3
import Derived.WalkKit
set_option linter.unusedSimpArgs false
set_option linter.unusedVariables false
namespace Go.Proofs.Ytifbiamfandjnaa
open Go Go.Proofs Go.RowKit Go.Seq Go.Maps
theorem less_red {e l P : Int} (hP : 0 < P) (hP2 : P ≤ 60000) (he : e.natAbs ≤ 60000) (hl : l.natAbs ≤ 60000) (w : World) :
    Calls Try.prog 63 #[fracV (redN e P) (redD e P), fracV (redN l P) (redD l P)] w fun e' w' => e' = .returned (.bool (decide (e < l))) ∧ Below w.heap.size w w' := by
  obtain ⟨_, a2, a3, a4, a5⟩ := red_parts e hP
  obtain ⟨_, b2, b3, b4, b5⟩ := red_parts l hP
  have hb : ∀ x y : Int, -60000 ≤ x → x ≤ 60000 → 0 < y → y ≤ 60000 → IntKind.i64.wrap (x * y) = x * y := fun x y h1 h2 h3 h4 => by
    have k1 : x * y ≤ 60000 * 60000 := by
      rcases Int.lt_or_le x 0 with h | h
      · have := Int.mul_nonneg (show (0 : Int) ≤ -x by omega) (show (0 : Int) ≤ y by omega)
        rw [Int.neg_mul] at this; omega
      · exact Int.mul_le_mul h2 h4 (by omega) (by omega)
    have k2 : -(60000 * 60000) ≤ x * y := by
      rcases Int.lt_or_le x 0 with h | h
      · have := Int.mul_le_mul (show -x ≤ 60000 by omega) h4 (by omega) (by omega)
        rw [Int.neg_mul] at this; omega
      · have := Int.mul_nonneg h (show (0 : Int) ≤ y by omega); omega
    exact IntWalk.i64_in _ (by omega)
  have := less_any (hb _ _ (by omega) (by omega) b2 (by omega)) (hb _ _ (by omega) (by omega) a2 (by omega)) w (a := redN e P) (b := redD e P) (c := redN l P) (d := redD l P)
  rwa [show decide (redN e P * redD l P < redN l P * redD e P) = decide (e < l) from decide_eq_decide.2 (red_lt_iff hP)] at this
/-- The class of worlds in the last region of Interval: s 11, s 12: the results are stored. -/
structure Cl21 (w : World) (L : Nat) (x1 y1 x2 y2 rx ry : Int) (mn mx : Nat) (s : Nat → Bool) (W : World) : Prop where
  l0 : W.heap[L]? = some (.cells #[.int .i64 x1, .int .i64 y1] 25 (0, 0))
  l1 : W.heap[L + 1]? = some (.cells #[.int .i64 x2, .int .i64 y2] 25 (0, 0))
  r0 : W.heap[w.heap.size]? = some (.cells (if s 11 = true then #[.int .i64 rx, .int .i64 ry] else #[.int .i64 0, .int .i64 0]) 25 (0, 0))
  r1 : W.heap[w.heap.size + 1]? = some (.cells (if s 12 = true then #[.int .i64 mn, .int .i64 mx] else #[.int .i64 0, .int .i64 0]) 39 (0, 0))
  sz : L + 1 < W.heap.size
  hl : w.heap.size + 1 < L
  bl : Below w.heap.size w W
section
variable {w W W' : World} {L : Nat} {x1 y1 x2 y2 rx ry : Int} {mn mx : Nat} {s : Nat → Bool}
theorem Cl21.read (h : Cl21 w L x1 y1 x2 y2 rx ry mn mx s W) {k : Nat} (h1 : k ≠ 11) (h2 : k ≠ 12) : Cl21 w L x1 y1 x2 y2 rx ry mn mx (Many.upd s k) W := by
  have e1 : Many.upd s k 11 = s 11 := by simp [Many.upd, h1]
  have e2 : Many.upd s k 12 = s 12 := by simp [Many.upd, h2]
  exact ⟨h.l0, h.l1, by rw [e1]; exact h.r0, by rw [e2]; exact h.r1, h.sz, h.hl, h.bl⟩
theorem Cl21.below (h : Cl21 w L x1 y1 x2 y2 rx ry mn mx s W) (hb : Below W.heap.size W W') : Cl21 w L x1 y1 x2 y2 rx ry mn mx s W' := by
  have h1 := h.sz
  have h2 := h.hl
  exact ⟨(hb.block _ (by omega)).trans h.l0, (hb.block _ (by omega)).trans h.l1, (hb.block _ (by omega)).trans h.r0, (hb.block _ (by omega)).trans h.r1, Nat.lt_of_lt_of_le h.sz hb.size, h.hl, h.bl.trans (hb.mono (by omega))⟩
theorem Cl21.facts (h : Cl21 w L x1 y1 x2 y2 rx ry mn mx s W) :
    (W.cell? ⟨L, 0, none⟩ = some (.int .i64 x1) ∧ W.cell? ⟨L, 1, none⟩ = some (.int .i64 y1) ∧ W.cell? ⟨L + 1, 0, none⟩ = some (.int .i64 x2) ∧ W.cell? ⟨L + 1, 1, none⟩ = some (.int .i64 y2)) ∧
    (W.cell? ⟨w.heap.size, 0, none⟩ = some (.int .i64 (if s 11 = true then rx else 0)) ∧ W.cell? ⟨w.heap.size, 1, none⟩ = some (.int .i64 (if s 11 = true then ry else 0)) ∧ W.frozen? ⟨w.heap.size, 0, none⟩ = false ∧ W.frozen? ⟨w.heap.size, 1, none⟩ = false) ∧
    (W.cell? ⟨w.heap.size + 1, 0, none⟩ = some (.int .i64 (if s 12 = true then (mn : Int) else 0)) ∧ W.cell? ⟨w.heap.size + 1, 1, none⟩ = some (.int .i64 (if s 12 = true then (mx : Int) else 0)) ∧ W.frozen? ⟨w.heap.size + 1, 0, none⟩ = false ∧ W.frozen? ⟨w.heap.size + 1, 1, none⟩ = false) := by
  have h0 := h.l0
  have h1 := h.l1
  have h2 := h.r0
  have h3 := h.r1
  refine ⟨by simp [World.cell?, h0, h1], ?_, ?_⟩
  · cases hs : s 11 <;> rw [hs] at h2 <;> simp [World.cell?, World.frozen?, h2]
  · cases hs : s 12 <;> rw [hs] at h3 <;> simp [World.cell?, World.frozen?, h3]
theorem Cl21.store11 (h : Cl21 w L x1 y1 x2 y2 rx ry mn mx s W) : Cl21 w L x1 y1 x2 y2 rx ry mn mx (Many.upd s 11) ((W.setCell ⟨w.heap.size, 0, none⟩ (.int .i64 rx)).setCell ⟨w.heap.size, 1, none⟩ (.int .i64 ry)) := by
  have h2 := h.hl
  have e1 : Many.upd s 11 11 = true := by simp [Many.upd]
  have e2 : Many.upd s 11 12 = s 12 := by simp [Many.upd]
  refine ⟨put_other (put_other h.l0 (by omega) _) (by omega) _, put_other (put_other h.l1 (by omega) _) (by omega) _, ?_, by rw [e2]; exact put_other (put_other h.r1 (by omega) _) (by omega) _, by simpa [World.setCell] using h.sz, h.hl, (h.bl.setCell (p := ⟨w.heap.size, 0, none⟩) (Nat.le_refl _) _).setCell (p := ⟨w.heap.size, 1, none⟩) (Nat.le_refl _) _⟩
  rw [e1]
  have := heap_set (i := 1) (heap_set (i := 0) h.r0 (.int .i64 rx)) (.int .i64 ry)
  rw [this]
  cases s 11 <;> rfl
theorem Cl21.store12 (h : Cl21 w L x1 y1 x2 y2 rx ry mn mx s W) : Cl21 w L x1 y1 x2 y2 rx ry mn mx (Many.upd s 12) ((W.setCell ⟨w.heap.size + 1, 0, none⟩ (.int .i64 mn)).setCell ⟨w.heap.size + 1, 1, none⟩ (.int .i64 mx)) := by
  have h2 := h.hl
  have e1 : Many.upd s 12 12 = true := by simp [Many.upd]
  have e2 : Many.upd s 12 11 = s 11 := by simp [Many.upd]
  refine ⟨put_other (put_other h.l0 (by omega) _) (by omega) _, put_other (put_other h.l1 (by omega) _) (by omega) _, by rw [e2]; exact put_other (put_other h.r0 (by omega) _) (by omega) _, ?_, by simpa [World.setCell] using h.sz, h.hl, (h.bl.setCell (p := ⟨w.heap.size + 1, 0, none⟩) (by simp) _).setCell (p := ⟨w.heap.size + 1, 1, none⟩) (by simp) _⟩
  rw [e1]
  have := heap_set (i := 1) (heap_set (i := 0) h.r1 (.int .i64 mn)) (.int .i64 mx)
  rw [this]
  cases s 12 <;> rfl
theorem Cl21.fin (h : Cl21 w L x1 y1 x2 y2 rx ry mn mx s W) (h1 : s 11 = true) (h2 : s 12 = true) :
    (W.cell? ⟨w.heap.size, 0, none⟩ = some (.int .i64 rx) ∧ W.cell? ⟨w.heap.size, 1, none⟩ = some (.int .i64 ry)) ∧ (W.cell? ⟨w.heap.size + 1, 0, none⟩ = some (.int .i64 mn) ∧ W.cell? ⟨w.heap.size + 1, 1, none⟩ = some (.int .i64 mx)) ∧ Below w.heap.size w W := by
  obtain ⟨_, ⟨a1, a2, _⟩, ⟨b1, b2, _⟩⟩ := h.facts
  rw [h1] at a1 a2
  rw [h2] at b1 b2
  exact ⟨⟨a1, a2⟩, ⟨b1, b2⟩, h.bl⟩
end
theorem red_zero {P : Int} (hP : 0 < P) : redN 0 P = 0 ∧ redD 0 P = 1 := by
  unfold redN redD
  rw [Int.gcd_zero_left]
  exact ⟨by simp, by rw [Int.natAbs_of_nonneg (by omega)]; exact Int.ediv_self (by omega)⟩

set_option maxRecDepth 100000 in
set_option maxHeartbeats 8000000 in
theorem intv_any {N : Nat} {v : Value} {zs : List Int} {w : World} (hv : IntsAt w v zs) (hok : okLine N zs = true) :
    Calls Try.prog 23 #[.int .i64 N, v] w fun e w' => ∃ D s t : Nat, e = .returned (.tuple #[fracV (redN (D : Int) ((zs.length : Int) * N)) (redD (D : Int) ((zs.length : Int) * N)), .agg #[.int .i64 s, .int .i64 t], .int .i64 0]) ∧ pairSpec (excT N zs) N D s t ∧ Below w.heap.size w w' := by
  have hok1 := hok
  unfold okLine at hok1
  rw [Bool.and_eq_true, decide_eq_true_iff] at hok1
  obtain ⟨⟨k1, k2, k3, k4⟩, _⟩ := hok1
  have hN1 : 1 ≤ N := by omega
  have hN2 : N ≤ 1000 := by omega
  have hv' := ints_below hv (((Below.refl _ w).alloc (Nat.le_refl _) (.cells #[.int .i64 0, .int .i64 0] 25)).alloc (by simp) (.cells #[.int .i64 0, .int .i64 0] 39))
  obtain ⟨n, hn⟩ : ∃ n, Keep (zs.length = n) := ⟨_, ⟨rfl⟩⟩
  obtain ⟨P, hP⟩ : ∃ P : Int, Keep ((n : Int) * (N : Int) = P) := ⟨_, ⟨rfl⟩⟩
  have hP1 : Keep (0 < P ∧ P ≤ 60000) := by
    have h1 : 1 * 1 ≤ n * N := Nat.mul_le_mul (by rw [← hn.out]; exact k3) hN1
    have h2 : n * N ≤ 60 * 1000 := Nat.mul_le_mul (by rw [← hn.out]; exact k4) hN2
    have h3 : P = ((n * N : Nat) : Int) := by rw [← hP.out]; push_cast; rfl
    exact ⟨by omega⟩
  obtain ⟨g, hg⟩ : ∃ g, Keep (g = excT N zs) := ⟨_, ⟨rfl⟩⟩
  have hgz : Keep (g 0 = 0) := ⟨by rw [hg.out]; exact exc_zero hok⟩
  have hgb : Keep (∀ t, t ≤ N → -60000 ≤ g t ∧ g t ≤ 60000) := ⟨fun t ht => by rw [hg.out]; exact excT_le hN2 k4 ht⟩
  have hlob : Keep (∀ k, k ≤ N + 1 → -60000 ≤ loF g k ∧ loF g k ≤ 60000 ∧ -60000 ≤ hiF g k ∧ hiF g k ≤ 60000) := ⟨fun k hk => by
    cases k with
    | zero => simp [loF, hiF]
    | succ k =>
      obtain ⟨⟨i, hi, e1, _⟩, _⟩ := lo_spec hgz.out k
      obtain ⟨⟨j, hj, e2, _⟩, _⟩ := hi_spec hgz.out k
      have := hgb.out i (by omega)
      have := hgb.out j (by omega)
      omega⟩
  obtain ⟨e01, e02⟩ := red_zero hP1.out.1
  have q61a : ∀ w, Calls Try.prog 61 #[.int .i64 0, .int .i64 1] w fun e w' => e = .returned (.agg #[.int .i64 0, .int .i64 1]) ∧ Below w.heap.size w w' := fun w => lowest_any 0 1 (by omega) (by omega) (by omega) (by omega) w
  have q61b := q61a
  have q61c := Keep.mk q61a
  clear hv k1 k2
  rw [hn.out] at k3 k4 ⊢
  rw [hP.out]
  have hmm := @run_makeMap Try.prog
  go_enter Try.func23, Try.ntmps23
  go_wp2_with (first
    | (go_at_call 52; refine (readLine_any hv' hok).mono ?_; rintro e w5 ⟨rfl, hb5, hL5⟩; rw [hn.out] at hL5)
    | (go_at_call 61; (with_reducible refine (q61a _).mono ?_); rintro e w6 ⟨rfl, hb6⟩; clear q61a)
    | (go_at_call 61; (with_reducible refine (q61b _).mono ?_); rintro e w7 ⟨rfl, hb7⟩; clear q61b))
  have hs5 := hb5.size
  have hs6 := hb6.size
  have hs7 := hb7.size
  simp only [World.size_alloc] at hs5 hs6 hs7 hL5 hb5
  obtain ⟨b, hb⟩ : ∃ b, b = w.heap.size + 1 + 1 := ⟨_, rfl⟩
  obtain ⟨M, hM⟩ : ∃ M, M = w5.heap.size := ⟨_, rfl⟩
  obtain ⟨L, hL⟩ : ∃ L, L = w7.heap.size := ⟨_, rfl⟩
  obtain ⟨W0, hW0⟩ : ∃ W0, ((w7.alloc (.cells #[.int .i64 0, .int .i64 1] 25)).alloc (.cells #[.int .i64 0, .int .i64 1] 25)) = W0 := ⟨_, rfl⟩
  have hbw5 : Below w.heap.size w w5 := (((Below.refl _ w).alloc (Nat.le_refl _) _).alloc (by simp) _).trans (hb5.mono (by omega))
  have hbw7 : Below w.heap.size w w7 := (hbw5.alloc (by omega) _).trans ((hb6.trans (hb7.mono hb6.size)).mono (by simp; omega))
  have hbw0 : Keep (Below w.heap.size w W0) := ⟨by rw [← hW0]; exact (hbw7.alloc (by omega) _).alloc (by simp; omega) _⟩
  have hb57 : Below w5.heap.size w5 w7 := ((Below.refl _ w5).alloc (Nat.le_refl _) _).trans ((hb6.trans (hb7.mono hb6.size)).mono (by simp))
  have hL5lt := hL5.lt
  have hmap0 : (w5.alloc (.map #[] 0)).ownsMap Try.prog 25 (plainElem Try.prog 3) w5.heap.size 0 (fmap P g 0) := World.ownsMap_made _ _ _ _
  have hbm : Below (w5.heap.size + 1) (w5.alloc (.map #[] 0)) w7 := by have := hb6.trans (hb7.mono hb6.size); simpa using this
  have hI0 : IvAt W0 b M L N n (mid zs N) 0 (fmap P g 0) (redN (loF g 0) P) (redD (loF g 0) P) (redN (hiF g 0) P) (redD (hiF g 0) P) := by
    have a1 : ∀ j, j < w7.heap.size → W0.heap[j]? = w7.heap[j]? := fun j hj => by
      rw [← hW0, Below.heap_alloc _ _ _ (by simp; omega), Below.heap_alloc _ _ _ hj]
    refine ⟨?_, ?_, ?_, ?_, ?_, ?_⟩
    · rw [hb]; exact (hL5.below hb57 hL5lt).same (a1 _ (by omega))
    · rw [hM]; exact map_same (map_same hmap0 (hbm.block _ (by omega))) (a1 _ (by omega))
    · show W0.heap[L]? = some (.cells #[.int .i64 (redN 0 P), .int .i64 (redD 0 P)] 25 (0, 0))
      rw [e01, e02, hL, ← hW0, Below.heap_alloc _ _ _ (by simp)]; exact World.alloc_heap_new w7 _
    · show W0.heap[L + 1]? = some (.cells #[.int .i64 (redN 0 P), .int .i64 (redD 0 P)] 25 (0, 0))
      rw [e01, e02, hL, ← hW0]
      have := World.alloc_heap_new (w7.alloc (.cells #[.int .i64 0, .int .i64 1] 25)) (.cells #[.int .i64 0, .int .i64 1] 25)
      simpa using this
    · rw [hb, hM]; omega
    · rw [hM, hL]; omega
  have hres : Keep ((W0.heap[w.heap.size]? = some (.cells #[.int .i64 0, .int .i64 0] 25 (0, 0)) ∧ W0.heap[w.heap.size + 1]? = some (.cells #[.int .i64 0, .int .i64 0] 39 (0, 0))) ∧ w.heap.size + 1 < b ∧ w.heap.size + 4 ≤ W0.heap.size) := by
    have a0 : ∀ j, j < w.heap.size + 2 → W0.heap[j]? = ((w.alloc (.cells #[.int .i64 0, .int .i64 0] 25)).alloc (.cells #[.int .i64 0, .int .i64 0] 39)).heap[j]? := fun j hj => by
      rw [← hW0, Below.heap_alloc _ _ _ (by simp; omega), Below.heap_alloc _ _ _ (by omega), hb57.block _ (by omega), hb5.block _ (by omega)]
    refine ⟨⟨⟨?_, ?_⟩, by omega, ?_⟩⟩
    · rw [a0 _ (by omega), Below.heap_alloc _ _ _ (by simp)]; exact World.alloc_heap_new w _
    · rw [a0 _ (by omega)]
      have := World.alloc_heap_new (w.alloc (.cells #[.int .i64 0, .int .i64 0] 25)) (.cells #[.int .i64 0, .int .i64 0] 39)
      simpa using this
    · rw [← hW0]; simp; omega
  rw [← hb, ← hM, ← hL, hW0]
  clear hW0 hb hM hL hb5 hb6 hb7 hs5 hs6 hs7 hbw5 hbw7 hb57 hL5lt hmap0 hbm hL5 hv' e01 e02
  go_loopw [33] (fun i wr => ∃ k : Nat, k ≤ N + 1 ∧ i = .int .i64 k ∧ IvAt wr b M L N n (mid zs N) k (fmap P g k) (redN (loF g k) P) (redD (loF g k) P) (redN (hiF g k) P) (redD (hiF g k) P) ∧ Below b W0 wr) (fun i _ => N + 1 - (intOf i).toNat)
  case atStart => exact ⟨0, by omega, rfl, hI0, Below.refl _ _⟩
  case round =>
    obtain ⟨k, hk, rfl, hS, hbw⟩ := hrel
    have hbz : b ≤ wr.heap.size := by have := hS.ord; have := hS.lt; omega
    have hbW0 : b ≤ W0.heap.size := by have := hI0.ord; have := hI0.lt; omega
    by_cases hlt : k ≤ N
    · obtain ⟨e, he⟩ : ∃ e, g k = e := ⟨_, rfl⟩
      have heb := hgb.out k hlt
      obtain ⟨l1, l2, l3, l4⟩ := hlob.out k hk
      rw [he] at heb
      obtain ⟨lo, hlo⟩ : ∃ lo, loF g k = lo := ⟨_, rfl⟩
      obtain ⟨up, hup⟩ : ∃ up, hiF g k = up := ⟨_, rfl⟩
      rw [hlo] at l1 l2
      rw [hup] at l3 l4
      have hkey := key_red (e := e) hP1.out.1 (by have := hP1.out.2; omega) (by omega)
      have r1 := fun w => less_red (e := e) (l := lo) hP1.out.1 hP1.out.2 (by omega) (by omega) w
      have r2 := fun w => less_red (e := up) (l := e) hP1.out.1 hP1.out.2 (by omega) (by omega) w
      obtain ⟨D, hD⟩ : ∃ D, fmap P g k = D := ⟨_, rfl⟩
      have m1 : fmap P g (k + 1) = if Maps.has D (kl P e) = true then D else D.put (kl P e) (.lit (.int .i64 k)) := by
        have : fmap P g (k + 1) = if Maps.has (fmap P g k) (kl P (g k)) = true then fmap P g k else (fmap P g k).put (kl P (g k)) (.lit (.int .i64 k)) := rfl
        rw [this, hD, he]
      have m2 : loF g (k + 1) = if e < lo then e else lo := by
        have : loF g (k + 1) = if g k < loF g k then g k else loF g k := rfl
        rw [this, he, hlo]
      have m3 : hiF g (k + 1) = if up < e then e else up := by
        have : hiF g (k + 1) = if hiF g k < g k then g k else hiF g k := rfl
        rw [this, he, hup]
      rw [hD, hlo, hup] at hS
      have hmid := mid_eq (zs := zs) hlt
      obtain ⟨ct, hct⟩ : ∃ c, belowC zs k = c := ⟨_, rfl⟩
      rw [hct] at hmid
      have hc60 : ct ≤ 60 := by have := belowC_le zs k; rw [hn.out] at this; omega
      have hLn := hS.line
      have q62 := excess_any hLn (c := ct) (t := k) hc60 (by omega)
      have hexc : exc N n ct k = e := by rw [← he, hg.out]; unfold excT; rw [hn.out, hct]
      rw [hexc] at q62
      have q55 : ∀ m, Calls Try.prog 55 #[.pointer (some ⟨b, 0, none⟩), .int .i64 e] (wr.drewN m) fun e' w' => e' = .returned (fracV (redN e P) (redD e P)) ∧ Below wr.heap.size (wr.drewN m) w' := fun m => by
        have := frac_any (hLn.drewN m) hN1 k3 e (by omega) (by omega)
        rw [hP.out] at this
        exact this
      obtain ⟨x, hx⟩ : ∃ x, redN e P = x := ⟨_, rfl⟩
      obtain ⟨y, hy⟩ : ∃ y, redD e P = y := ⟨_, rfl⟩
      obtain ⟨x1, hx1⟩ : ∃ x, redN lo P = x := ⟨_, rfl⟩
      obtain ⟨y1, hy1⟩ : ∃ y, redD lo P = y := ⟨_, rfl⟩
      obtain ⟨x2, hx2⟩ : ∃ x, redN up P = x := ⟨_, rfl⟩
      obtain ⟨y2, hy2⟩ : ∃ y, redD up P = y := ⟨_, rfl⟩
      rw [hx, hy] at hkey q55 r1 r2
      rw [hx1, hy1] at r1 hS
      rw [hx2, hy2] at r2 hS
      unfold fracV at hkey q55 r1 r2
      have hat := hLn.at_ k (by omega)
      rw [hmid] at hat
      have hk1001 : k < 1001 := by omega
      have hk1001i : (k : Int) < 1001 := by omega
      have hord := hS.ord
      have hLW : b ≤ L := by omega
      have hMW : b ≤ M := by omega
      have hLlt := hS.lt
      have hSk := Keep.mk hS
      have hmk := Keep.mk m1
      have hlk := Keep.mk m2
      have hhk := Keep.mk m3
      have hex := Keep.mk (show redN e P = x ∧ redD e P = y ∧ redN lo P = x1 ∧ redD lo P = y1 ∧ redN up P = x2 ∧ redD up P = y2 from ⟨hx, hy, hx1, hy1, hx2, hy2⟩)
      have hltk : k < N + 1 := by omega
      have hlti : (k : Int) < (N : Int) + 1 := by omega
      clear m1 m2 m3 hx hy hx1 hy1 hx2 hy2 hmid hct hexc hc60 hS he hD hlo hup l1 l2 l3 l4 heb hLn
      obtain ⟨hb1, hhas⟩ : ∃ hb1, Maps.has D (kl P e) = hb1 := ⟨_, rfl⟩
      obtain ⟨hb2, hless1⟩ : ∃ hb2, decide (e < lo) = hb2 := ⟨_, rfl⟩
      obtain ⟨hb3, hless2⟩ : ∃ hb3, decide (up < e) = hb3 := ⟨_, rfl⟩
      rw [hless1] at r1
      rw [hless2] at r2
      rcases hb1 with _ | _ <;> rcases hb2 with _ | _ <;> rcases hb3 with _ | _
      · -- has 0, less 0, greater 0
        have hm' : Keep (fmap P g (k + 1) = D.put (kl P e) (.lit (.int .i64 k))) := ⟨by rw [hmk.out, hhas]; rfl⟩
        have hl' : Keep (loF g (k + 1) = lo) := ⟨by rw [hlk.out]; exact if_neg (of_decide_eq_false hless1)⟩
        have hh' : Keep (hiF g (k + 1) = up) := ⟨by rw [hhk.out]; exact if_neg (of_decide_eq_false hless2)⟩
        clear hmk hlk hhk hless1 hless2
        go_wp2_with (first
          | (go_at_call 62; (with_reducible refine q62.mono ?_); rintro e' w6 ⟨rfl, nd, rfl⟩)
          | (go_at_call 55; (with_reducible refine (q55 _).mono ?_); rintro e' w8 ⟨rfl, hb8⟩
             have hs8 : wr.heap.size ≤ w8.heap.size := hb8.size
             have S8 : IvAt (w8.alloc (.cells #[.int .i64 x, .int .i64 y] 25)) b M L N n (mid zs N) k D x1 y1 x2 y2 := (((hSk.out.same (W' := wr.drewN nd) fun _ _ => rfl).below hb8).below ((Below.refl _ w8).alloc (Nat.le_refl _) _))
             have B8 : (w8.alloc (.cells #[.int .i64 x, .int .i64 y] 25)).heap[w8.heap.size]? = some (.cells #[.int .i64 x, .int .i64 y] 25 (0, 0)) := World.alloc_heap_new _ _
             have hW8 : Below b W0 (w8.alloc (.cells #[.int .i64 x, .int .i64 y] 25)) := ((below_drewN hbw nd).trans (hb8.mono hbz)).alloc (by omega) _
             have z8 : (w8.alloc (.cells #[.int .i64 x, .int .i64 y] 25)).heap.size = w8.heap.size + 1 := by simp
             have g1 : ¬ w8.heap.size = L := by omega
             have g2 : ¬ L = w8.heap.size := by omega
             have g3 : ¬ w8.heap.size = L + 1 := by omega
             have g4 : ¬ L + 1 = w8.heap.size := by omega
             have g5 : ¬ w8.heap.size = M := by omega
             obtain ⟨⟨c0, c1, c2, c3⟩, f0, f1, f2, f3⟩ := S8.facts
             clear hb8 q62 q55)
          | (at_lookup; refine wpList_lookup_own_ok_int _ rfl _ _ 98 rfl 25 3 .i64 law25 Try.underlying98 Try.underlying3 (zero3 _) M k _ rfl S8.map _ _ rfl hkey ?_; intro cv hatv hwcv; rw [hhas]; clear hatv)
          | (at_mapUpdate; refine wpList_mapUpdate_own _ rfl _ _ _ 98 rfl 25 3 law25 Try.underlying98 _ M k _ rfl S8.map (by unfold maxLen; omega) _ _ _ rfl rfl hkey _ [] (plainElem_int Try.underlying3 (wf_of (by unfold In64; omega))) ?_; intro w9 hown9 hgrow9
             have S9 := S8.put hown9 hgrow9
             have B9 := (hgrow9.block w8.heap.size (by simp) (by simp; omega)).trans B8
             have hW9 : Below b W0 w9 := hW8.grown hgrow9 (Nat.le_trans hbW0 hW8.size) (fun j hj => by cases hj; exact hMW)
             have z9 : w8.heap.size + 1 ≤ w9.heap.size := by have := hgrow9.size; omega
             clear S8 B8 hW8 c0 c1 c2 c3 f0 f1 f2 f3 hown9 hgrow9
             obtain ⟨⟨c0, c1, c2, c3⟩, f0, f1, f2, f3⟩ := S9.facts
             have d0 : w9.cell? ⟨w8.heap.size, 0, none⟩ = some (.int .i64 x) := by simp [World.cell?, B9]
             have d1 : w9.cell? ⟨w8.heap.size, 1, none⟩ = some (.int .i64 y) := by simp [World.cell?, B9])
          | (go_at_call 63; (with_reducible refine (r1 _).mono ?_); rintro e' wa ⟨rfl, hba⟩
             have Sa := S9.below hba
             have Ba := (hba.block w8.heap.size (by omega)).trans B9
             have hWa : Below b W0 wa := hW9.trans (hba.mono (Nat.le_trans hbW0 hW9.size))
             have za : w8.heap.size + 1 ≤ wa.heap.size := by have := hba.size; omega
             clear S9 B9 hW9 c0 c1 c2 c3 f0 f1 f2 f3 hba r1 d0 d1
             obtain ⟨⟨c0, c1, c2, c3⟩, f0, f1, f2, f3⟩ := Sa.facts
             have d0 : wa.cell? ⟨w8.heap.size, 0, none⟩ = some (.int .i64 x) := by simp [World.cell?, Ba]
             have d1 : wa.cell? ⟨w8.heap.size, 1, none⟩ = some (.int .i64 y) := by simp [World.cell?, Ba])
          | (go_at_call 63; (with_reducible refine (r2 _).mono ?_); rintro e' wb ⟨rfl, hbb⟩
             have Sb := Sa.below hbb
             have Bb := (hbb.block w8.heap.size (by omega)).trans Ba
             have hWb : Below b W0 wb := hWa.trans (hbb.mono (Nat.le_trans hbW0 hWa.size))
             clear Sa Ba hWa c0 c1 c2 c3 f0 f1 f2 f3 d0 d1 hbb r2
             obtain ⟨⟨c0, c1, c2, c3⟩, f0, f1, f2, f3⟩ := Sb.facts
             have d0 : wb.cell? ⟨w8.heap.size, 0, none⟩ = some (.int .i64 x) := by simp [World.cell?, Bb]
             have d1 : wb.cell? ⟨w8.heap.size, 1, none⟩ = some (.int .i64 y) := by simp [World.cell?, Bb]))
        refine ⟨⟨k + 1, by omega, by go_num, ?_, ?_⟩, by simp [intOf]; omega⟩
        · rw [hm'.out, hl'.out, hh'.out]
          obtain ⟨i1, i2, i3, i4, i5, i6⟩ := hex.out
          rw [i3, i4, i5, i6]
          exact Sb
        · exact hWb
      · -- has 0, less 0, greater 1
        have hm' : Keep (fmap P g (k + 1) = D.put (kl P e) (.lit (.int .i64 k))) := ⟨by rw [hmk.out, hhas]; rfl⟩
        have hl' : Keep (loF g (k + 1) = lo) := ⟨by rw [hlk.out]; exact if_neg (of_decide_eq_false hless1)⟩
        have hh' : Keep (hiF g (k + 1) = e) := ⟨by rw [hhk.out]; exact if_pos (of_decide_eq_true hless2)⟩
        clear hmk hlk hhk hless1 hless2
        go_wp2_with (first
          | (go_at_call 62; (with_reducible refine q62.mono ?_); rintro e' w6 ⟨rfl, nd, rfl⟩)
          | (go_at_call 55; (with_reducible refine (q55 _).mono ?_); rintro e' w8 ⟨rfl, hb8⟩
             have hs8 : wr.heap.size ≤ w8.heap.size := hb8.size
             have S8 : IvAt (w8.alloc (.cells #[.int .i64 x, .int .i64 y] 25)) b M L N n (mid zs N) k D x1 y1 x2 y2 := (((hSk.out.same (W' := wr.drewN nd) fun _ _ => rfl).below hb8).below ((Below.refl _ w8).alloc (Nat.le_refl _) _))
             have B8 : (w8.alloc (.cells #[.int .i64 x, .int .i64 y] 25)).heap[w8.heap.size]? = some (.cells #[.int .i64 x, .int .i64 y] 25 (0, 0)) := World.alloc_heap_new _ _
             have hW8 : Below b W0 (w8.alloc (.cells #[.int .i64 x, .int .i64 y] 25)) := ((below_drewN hbw nd).trans (hb8.mono hbz)).alloc (by omega) _
             have z8 : (w8.alloc (.cells #[.int .i64 x, .int .i64 y] 25)).heap.size = w8.heap.size + 1 := by simp
             have g1 : ¬ w8.heap.size = L := by omega
             have g2 : ¬ L = w8.heap.size := by omega
             have g3 : ¬ w8.heap.size = L + 1 := by omega
             have g4 : ¬ L + 1 = w8.heap.size := by omega
             have g5 : ¬ w8.heap.size = M := by omega
             obtain ⟨⟨c0, c1, c2, c3⟩, f0, f1, f2, f3⟩ := S8.facts
             clear hb8 q62 q55)
          | (at_lookup; refine wpList_lookup_own_ok_int _ rfl _ _ 98 rfl 25 3 .i64 law25 Try.underlying98 Try.underlying3 (zero3 _) M k _ rfl S8.map _ _ rfl hkey ?_; intro cv hatv hwcv; rw [hhas]; clear hatv)
          | (at_mapUpdate; refine wpList_mapUpdate_own _ rfl _ _ _ 98 rfl 25 3 law25 Try.underlying98 _ M k _ rfl S8.map (by unfold maxLen; omega) _ _ _ rfl rfl hkey _ [] (plainElem_int Try.underlying3 (wf_of (by unfold In64; omega))) ?_; intro w9 hown9 hgrow9
             have S9 := S8.put hown9 hgrow9
             have B9 := (hgrow9.block w8.heap.size (by simp) (by simp; omega)).trans B8
             have hW9 : Below b W0 w9 := hW8.grown hgrow9 (Nat.le_trans hbW0 hW8.size) (fun j hj => by cases hj; exact hMW)
             have z9 : w8.heap.size + 1 ≤ w9.heap.size := by have := hgrow9.size; omega
             clear S8 B8 hW8 c0 c1 c2 c3 f0 f1 f2 f3 hown9 hgrow9
             obtain ⟨⟨c0, c1, c2, c3⟩, f0, f1, f2, f3⟩ := S9.facts
             have d0 : w9.cell? ⟨w8.heap.size, 0, none⟩ = some (.int .i64 x) := by simp [World.cell?, B9]
             have d1 : w9.cell? ⟨w8.heap.size, 1, none⟩ = some (.int .i64 y) := by simp [World.cell?, B9])
          | (go_at_call 63; (with_reducible refine (r1 _).mono ?_); rintro e' wa ⟨rfl, hba⟩
             have Sa := S9.below hba
             have Ba := (hba.block w8.heap.size (by omega)).trans B9
             have hWa : Below b W0 wa := hW9.trans (hba.mono (Nat.le_trans hbW0 hW9.size))
             have za : w8.heap.size + 1 ≤ wa.heap.size := by have := hba.size; omega
             clear S9 B9 hW9 c0 c1 c2 c3 f0 f1 f2 f3 hba r1 d0 d1
             obtain ⟨⟨c0, c1, c2, c3⟩, f0, f1, f2, f3⟩ := Sa.facts
             have d0 : wa.cell? ⟨w8.heap.size, 0, none⟩ = some (.int .i64 x) := by simp [World.cell?, Ba]
             have d1 : wa.cell? ⟨w8.heap.size, 1, none⟩ = some (.int .i64 y) := by simp [World.cell?, Ba])
          | (go_at_call 63; (with_reducible refine (r2 _).mono ?_); rintro e' wb ⟨rfl, hbb⟩
             have Sb := Sa.below hbb
             have Bb := (hbb.block w8.heap.size (by omega)).trans Ba
             have hWb : Below b W0 wb := hWa.trans (hbb.mono (Nat.le_trans hbW0 hWa.size))
             clear Sa Ba hWa c0 c1 c2 c3 f0 f1 f2 f3 d0 d1 hbb r2
             obtain ⟨⟨c0, c1, c2, c3⟩, f0, f1, f2, f3⟩ := Sb.facts
             have d0 : wb.cell? ⟨w8.heap.size, 0, none⟩ = some (.int .i64 x) := by simp [World.cell?, Bb]
             have d1 : wb.cell? ⟨w8.heap.size, 1, none⟩ = some (.int .i64 y) := by simp [World.cell?, Bb]))
        refine ⟨⟨k + 1, by omega, by go_num, ?_, ?_⟩, by simp [intOf]; omega⟩
        · rw [hm'.out, hl'.out, hh'.out]
          obtain ⟨i1, i2, i3, i4, i5, i6⟩ := hex.out
          rw [i3, i4, i1, i2]
          exact (Sb.setHi x y)
        · exact ((hWb.setCell (p := ⟨L + 1, 0, none⟩) (Nat.le_succ_of_le hLW) (.int .i64 x)).setCell (p := ⟨L + 1, 1, none⟩) (Nat.le_succ_of_le hLW) (.int .i64 y))
      · -- has 0, less 1, greater 0
        have hm' : Keep (fmap P g (k + 1) = D.put (kl P e) (.lit (.int .i64 k))) := ⟨by rw [hmk.out, hhas]; rfl⟩
        have hl' : Keep (loF g (k + 1) = e) := ⟨by rw [hlk.out]; exact if_pos (of_decide_eq_true hless1)⟩
        have hh' : Keep (hiF g (k + 1) = up) := ⟨by rw [hhk.out]; exact if_neg (of_decide_eq_false hless2)⟩
        clear hmk hlk hhk hless1 hless2
        go_wp2_with (first
          | (go_at_call 62; (with_reducible refine q62.mono ?_); rintro e' w6 ⟨rfl, nd, rfl⟩)
          | (go_at_call 55; (with_reducible refine (q55 _).mono ?_); rintro e' w8 ⟨rfl, hb8⟩
             have hs8 : wr.heap.size ≤ w8.heap.size := hb8.size
             have S8 : IvAt (w8.alloc (.cells #[.int .i64 x, .int .i64 y] 25)) b M L N n (mid zs N) k D x1 y1 x2 y2 := (((hSk.out.same (W' := wr.drewN nd) fun _ _ => rfl).below hb8).below ((Below.refl _ w8).alloc (Nat.le_refl _) _))
             have B8 : (w8.alloc (.cells #[.int .i64 x, .int .i64 y] 25)).heap[w8.heap.size]? = some (.cells #[.int .i64 x, .int .i64 y] 25 (0, 0)) := World.alloc_heap_new _ _
             have hW8 : Below b W0 (w8.alloc (.cells #[.int .i64 x, .int .i64 y] 25)) := ((below_drewN hbw nd).trans (hb8.mono hbz)).alloc (by omega) _
             have z8 : (w8.alloc (.cells #[.int .i64 x, .int .i64 y] 25)).heap.size = w8.heap.size + 1 := by simp
             have g1 : ¬ w8.heap.size = L := by omega
             have g2 : ¬ L = w8.heap.size := by omega
             have g3 : ¬ w8.heap.size = L + 1 := by omega
             have g4 : ¬ L + 1 = w8.heap.size := by omega
             have g5 : ¬ w8.heap.size = M := by omega
             obtain ⟨⟨c0, c1, c2, c3⟩, f0, f1, f2, f3⟩ := S8.facts
             clear hb8 q62 q55)
          | (at_lookup; refine wpList_lookup_own_ok_int _ rfl _ _ 98 rfl 25 3 .i64 law25 Try.underlying98 Try.underlying3 (zero3 _) M k _ rfl S8.map _ _ rfl hkey ?_; intro cv hatv hwcv; rw [hhas]; clear hatv)
          | (at_mapUpdate; refine wpList_mapUpdate_own _ rfl _ _ _ 98 rfl 25 3 law25 Try.underlying98 _ M k _ rfl S8.map (by unfold maxLen; omega) _ _ _ rfl rfl hkey _ [] (plainElem_int Try.underlying3 (wf_of (by unfold In64; omega))) ?_; intro w9 hown9 hgrow9
             have S9 := S8.put hown9 hgrow9
             have B9 := (hgrow9.block w8.heap.size (by simp) (by simp; omega)).trans B8
             have hW9 : Below b W0 w9 := hW8.grown hgrow9 (Nat.le_trans hbW0 hW8.size) (fun j hj => by cases hj; exact hMW)
             have z9 : w8.heap.size + 1 ≤ w9.heap.size := by have := hgrow9.size; omega
             clear S8 B8 hW8 c0 c1 c2 c3 f0 f1 f2 f3 hown9 hgrow9
             obtain ⟨⟨c0, c1, c2, c3⟩, f0, f1, f2, f3⟩ := S9.facts
             have d0 : w9.cell? ⟨w8.heap.size, 0, none⟩ = some (.int .i64 x) := by simp [World.cell?, B9]
             have d1 : w9.cell? ⟨w8.heap.size, 1, none⟩ = some (.int .i64 y) := by simp [World.cell?, B9])
          | (go_at_call 63; (with_reducible refine (r1 _).mono ?_); rintro e' wa ⟨rfl, hba⟩
             have Sa := S9.below hba
             have Ba := (hba.block w8.heap.size (by omega)).trans B9
             have hWa : Below b W0 wa := hW9.trans (hba.mono (Nat.le_trans hbW0 hW9.size))
             have za : w8.heap.size + 1 ≤ wa.heap.size := by have := hba.size; omega
             clear S9 B9 hW9 c0 c1 c2 c3 f0 f1 f2 f3 hba r1 d0 d1
             obtain ⟨⟨c0, c1, c2, c3⟩, f0, f1, f2, f3⟩ := Sa.facts
             have d0 : wa.cell? ⟨w8.heap.size, 0, none⟩ = some (.int .i64 x) := by simp [World.cell?, Ba]
             have d1 : wa.cell? ⟨w8.heap.size, 1, none⟩ = some (.int .i64 y) := by simp [World.cell?, Ba])
          | (go_at_call 63; (with_reducible refine (r2 _).mono ?_); rintro e' wb ⟨rfl, hbb⟩
             have Sb := (Sa.setLo x y).below hbb
             have Bb := (hbb.block w8.heap.size (by simp [World.setCell]; omega)).trans (put_other (put_other Ba (by omega) _) (by omega) _)
             have hWb : Below b W0 wb := ((hWa.setCell (p := ⟨L, 0, none⟩) hLW (.int .i64 x)).setCell (p := ⟨L, 1, none⟩) hLW (.int .i64 y)).trans (hbb.mono (Nat.le_trans hbW0 ((hWa.setCell (p := ⟨L, 0, none⟩) hLW (.int .i64 x)).setCell (p := ⟨L, 1, none⟩) hLW (.int .i64 y)).size))
             clear Sa Ba hWa c0 c1 c2 c3 f0 f1 f2 f3 d0 d1 hbb r2
             obtain ⟨⟨c0, c1, c2, c3⟩, f0, f1, f2, f3⟩ := Sb.facts
             have d0 : wb.cell? ⟨w8.heap.size, 0, none⟩ = some (.int .i64 x) := by simp [World.cell?, Bb]
             have d1 : wb.cell? ⟨w8.heap.size, 1, none⟩ = some (.int .i64 y) := by simp [World.cell?, Bb]))
        refine ⟨⟨k + 1, by omega, by go_num, ?_, ?_⟩, by simp [intOf]; omega⟩
        · rw [hm'.out, hl'.out, hh'.out]
          obtain ⟨i1, i2, i3, i4, i5, i6⟩ := hex.out
          rw [i1, i2, i5, i6]
          exact Sb
        · exact hWb
      · -- has 0, less 1, greater 1
        have hm' : Keep (fmap P g (k + 1) = D.put (kl P e) (.lit (.int .i64 k))) := ⟨by rw [hmk.out, hhas]; rfl⟩
        have hl' : Keep (loF g (k + 1) = e) := ⟨by rw [hlk.out]; exact if_pos (of_decide_eq_true hless1)⟩
        have hh' : Keep (hiF g (k + 1) = e) := ⟨by rw [hhk.out]; exact if_pos (of_decide_eq_true hless2)⟩
        clear hmk hlk hhk hless1 hless2
        go_wp2_with (first
          | (go_at_call 62; (with_reducible refine q62.mono ?_); rintro e' w6 ⟨rfl, nd, rfl⟩)
          | (go_at_call 55; (with_reducible refine (q55 _).mono ?_); rintro e' w8 ⟨rfl, hb8⟩
             have hs8 : wr.heap.size ≤ w8.heap.size := hb8.size
             have S8 : IvAt (w8.alloc (.cells #[.int .i64 x, .int .i64 y] 25)) b M L N n (mid zs N) k D x1 y1 x2 y2 := (((hSk.out.same (W' := wr.drewN nd) fun _ _ => rfl).below hb8).below ((Below.refl _ w8).alloc (Nat.le_refl _) _))
             have B8 : (w8.alloc (.cells #[.int .i64 x, .int .i64 y] 25)).heap[w8.heap.size]? = some (.cells #[.int .i64 x, .int .i64 y] 25 (0, 0)) := World.alloc_heap_new _ _
             have hW8 : Below b W0 (w8.alloc (.cells #[.int .i64 x, .int .i64 y] 25)) := ((below_drewN hbw nd).trans (hb8.mono hbz)).alloc (by omega) _
             have z8 : (w8.alloc (.cells #[.int .i64 x, .int .i64 y] 25)).heap.size = w8.heap.size + 1 := by simp
             have g1 : ¬ w8.heap.size = L := by omega
             have g2 : ¬ L = w8.heap.size := by omega
             have g3 : ¬ w8.heap.size = L + 1 := by omega
             have g4 : ¬ L + 1 = w8.heap.size := by omega
             have g5 : ¬ w8.heap.size = M := by omega
             obtain ⟨⟨c0, c1, c2, c3⟩, f0, f1, f2, f3⟩ := S8.facts
             clear hb8 q62 q55)
          | (at_lookup; refine wpList_lookup_own_ok_int _ rfl _ _ 98 rfl 25 3 .i64 law25 Try.underlying98 Try.underlying3 (zero3 _) M k _ rfl S8.map _ _ rfl hkey ?_; intro cv hatv hwcv; rw [hhas]; clear hatv)
          | (at_mapUpdate; refine wpList_mapUpdate_own _ rfl _ _ _ 98 rfl 25 3 law25 Try.underlying98 _ M k _ rfl S8.map (by unfold maxLen; omega) _ _ _ rfl rfl hkey _ [] (plainElem_int Try.underlying3 (wf_of (by unfold In64; omega))) ?_; intro w9 hown9 hgrow9
             have S9 := S8.put hown9 hgrow9
             have B9 := (hgrow9.block w8.heap.size (by simp) (by simp; omega)).trans B8
             have hW9 : Below b W0 w9 := hW8.grown hgrow9 (Nat.le_trans hbW0 hW8.size) (fun j hj => by cases hj; exact hMW)
             have z9 : w8.heap.size + 1 ≤ w9.heap.size := by have := hgrow9.size; omega
             clear S8 B8 hW8 c0 c1 c2 c3 f0 f1 f2 f3 hown9 hgrow9
             obtain ⟨⟨c0, c1, c2, c3⟩, f0, f1, f2, f3⟩ := S9.facts
             have d0 : w9.cell? ⟨w8.heap.size, 0, none⟩ = some (.int .i64 x) := by simp [World.cell?, B9]
             have d1 : w9.cell? ⟨w8.heap.size, 1, none⟩ = some (.int .i64 y) := by simp [World.cell?, B9])
          | (go_at_call 63; (with_reducible refine (r1 _).mono ?_); rintro e' wa ⟨rfl, hba⟩
             have Sa := S9.below hba
             have Ba := (hba.block w8.heap.size (by omega)).trans B9
             have hWa : Below b W0 wa := hW9.trans (hba.mono (Nat.le_trans hbW0 hW9.size))
             have za : w8.heap.size + 1 ≤ wa.heap.size := by have := hba.size; omega
             clear S9 B9 hW9 c0 c1 c2 c3 f0 f1 f2 f3 hba r1 d0 d1
             obtain ⟨⟨c0, c1, c2, c3⟩, f0, f1, f2, f3⟩ := Sa.facts
             have d0 : wa.cell? ⟨w8.heap.size, 0, none⟩ = some (.int .i64 x) := by simp [World.cell?, Ba]
             have d1 : wa.cell? ⟨w8.heap.size, 1, none⟩ = some (.int .i64 y) := by simp [World.cell?, Ba])
          | (go_at_call 63; (with_reducible refine (r2 _).mono ?_); rintro e' wb ⟨rfl, hbb⟩
             have Sb := (Sa.setLo x y).below hbb
             have Bb := (hbb.block w8.heap.size (by simp [World.setCell]; omega)).trans (put_other (put_other Ba (by omega) _) (by omega) _)
             have hWb : Below b W0 wb := ((hWa.setCell (p := ⟨L, 0, none⟩) hLW (.int .i64 x)).setCell (p := ⟨L, 1, none⟩) hLW (.int .i64 y)).trans (hbb.mono (Nat.le_trans hbW0 ((hWa.setCell (p := ⟨L, 0, none⟩) hLW (.int .i64 x)).setCell (p := ⟨L, 1, none⟩) hLW (.int .i64 y)).size))
             clear Sa Ba hWa c0 c1 c2 c3 f0 f1 f2 f3 d0 d1 hbb r2
             obtain ⟨⟨c0, c1, c2, c3⟩, f0, f1, f2, f3⟩ := Sb.facts
             have d0 : wb.cell? ⟨w8.heap.size, 0, none⟩ = some (.int .i64 x) := by simp [World.cell?, Bb]
             have d1 : wb.cell? ⟨w8.heap.size, 1, none⟩ = some (.int .i64 y) := by simp [World.cell?, Bb]))
        refine ⟨⟨k + 1, by omega, by go_num, ?_, ?_⟩, by simp [intOf]; omega⟩
        · rw [hm'.out, hl'.out, hh'.out]
          obtain ⟨i1, i2, i3, i4, i5, i6⟩ := hex.out
          rw [i1, i2]
          exact (Sb.setHi x y)
        · exact ((hWb.setCell (p := ⟨L + 1, 0, none⟩) (Nat.le_succ_of_le hLW) (.int .i64 x)).setCell (p := ⟨L + 1, 1, none⟩) (Nat.le_succ_of_le hLW) (.int .i64 y))
      · -- has 1, less 0, greater 0
        have hm' : Keep (fmap P g (k + 1) = D) := ⟨by rw [hmk.out, hhas]; rfl⟩
        have hl' : Keep (loF g (k + 1) = lo) := ⟨by rw [hlk.out]; exact if_neg (of_decide_eq_false hless1)⟩
        have hh' : Keep (hiF g (k + 1) = up) := ⟨by rw [hhk.out]; exact if_neg (of_decide_eq_false hless2)⟩
        clear hmk hlk hhk hless1 hless2
        go_wp2_with (first
          | (go_at_call 62; (with_reducible refine q62.mono ?_); rintro e' w6 ⟨rfl, nd, rfl⟩)
          | (go_at_call 55; (with_reducible refine (q55 _).mono ?_); rintro e' w8 ⟨rfl, hb8⟩
             have hs8 : wr.heap.size ≤ w8.heap.size := hb8.size
             have S8 : IvAt (w8.alloc (.cells #[.int .i64 x, .int .i64 y] 25)) b M L N n (mid zs N) k D x1 y1 x2 y2 := (((hSk.out.same (W' := wr.drewN nd) fun _ _ => rfl).below hb8).below ((Below.refl _ w8).alloc (Nat.le_refl _) _))
             have B8 : (w8.alloc (.cells #[.int .i64 x, .int .i64 y] 25)).heap[w8.heap.size]? = some (.cells #[.int .i64 x, .int .i64 y] 25 (0, 0)) := World.alloc_heap_new _ _
             have hW8 : Below b W0 (w8.alloc (.cells #[.int .i64 x, .int .i64 y] 25)) := ((below_drewN hbw nd).trans (hb8.mono hbz)).alloc (by omega) _
             have z8 : (w8.alloc (.cells #[.int .i64 x, .int .i64 y] 25)).heap.size = w8.heap.size + 1 := by simp
             have g1 : ¬ w8.heap.size = L := by omega
             have g2 : ¬ L = w8.heap.size := by omega
             have g3 : ¬ w8.heap.size = L + 1 := by omega
             have g4 : ¬ L + 1 = w8.heap.size := by omega
             have g5 : ¬ w8.heap.size = M := by omega
             obtain ⟨⟨c0, c1, c2, c3⟩, f0, f1, f2, f3⟩ := S8.facts
             clear hb8 q62 q55)
          | (at_lookup; refine wpList_lookup_own_ok_int _ rfl _ _ 98 rfl 25 3 .i64 law25 Try.underlying98 Try.underlying3 (zero3 _) M k _ rfl S8.map _ _ rfl hkey ?_; intro cv hatv hwcv; rw [hhas]; clear hatv)
          | (go_at_call 63; (with_reducible refine (r1 _).mono ?_); rintro e' wa ⟨rfl, hba⟩
             have Sa := S8.mono.below hba
             have Ba := (hba.block w8.heap.size (by omega)).trans B8
             have hWa : Below b W0 wa := hW8.trans (hba.mono (Nat.le_trans hbW0 hW8.size))
             have za : w8.heap.size + 1 ≤ wa.heap.size := by have := hba.size; omega
             clear S8 B8 hW8 c0 c1 c2 c3 f0 f1 f2 f3 hba r1 
             obtain ⟨⟨c0, c1, c2, c3⟩, f0, f1, f2, f3⟩ := Sa.facts
             have d0 : wa.cell? ⟨w8.heap.size, 0, none⟩ = some (.int .i64 x) := by simp [World.cell?, Ba]
             have d1 : wa.cell? ⟨w8.heap.size, 1, none⟩ = some (.int .i64 y) := by simp [World.cell?, Ba])
          | (go_at_call 63; (with_reducible refine (r2 _).mono ?_); rintro e' wb ⟨rfl, hbb⟩
             have Sb := Sa.below hbb
             have Bb := (hbb.block w8.heap.size (by omega)).trans Ba
             have hWb : Below b W0 wb := hWa.trans (hbb.mono (Nat.le_trans hbW0 hWa.size))
             clear Sa Ba hWa c0 c1 c2 c3 f0 f1 f2 f3 d0 d1 hbb r2
             obtain ⟨⟨c0, c1, c2, c3⟩, f0, f1, f2, f3⟩ := Sb.facts
             have d0 : wb.cell? ⟨w8.heap.size, 0, none⟩ = some (.int .i64 x) := by simp [World.cell?, Bb]
             have d1 : wb.cell? ⟨w8.heap.size, 1, none⟩ = some (.int .i64 y) := by simp [World.cell?, Bb]))
        refine ⟨⟨k + 1, by omega, by go_num, ?_, ?_⟩, by simp [intOf]; omega⟩
        · rw [hm'.out, hl'.out, hh'.out]
          obtain ⟨i1, i2, i3, i4, i5, i6⟩ := hex.out
          rw [i3, i4, i5, i6]
          exact Sb
        · exact hWb
      · -- has 1, less 0, greater 1
        have hm' : Keep (fmap P g (k + 1) = D) := ⟨by rw [hmk.out, hhas]; rfl⟩
        have hl' : Keep (loF g (k + 1) = lo) := ⟨by rw [hlk.out]; exact if_neg (of_decide_eq_false hless1)⟩
        have hh' : Keep (hiF g (k + 1) = e) := ⟨by rw [hhk.out]; exact if_pos (of_decide_eq_true hless2)⟩
        clear hmk hlk hhk hless1 hless2
        go_wp2_with (first
          | (go_at_call 62; (with_reducible refine q62.mono ?_); rintro e' w6 ⟨rfl, nd, rfl⟩)
          | (go_at_call 55; (with_reducible refine (q55 _).mono ?_); rintro e' w8 ⟨rfl, hb8⟩
             have hs8 : wr.heap.size ≤ w8.heap.size := hb8.size
             have S8 : IvAt (w8.alloc (.cells #[.int .i64 x, .int .i64 y] 25)) b M L N n (mid zs N) k D x1 y1 x2 y2 := (((hSk.out.same (W' := wr.drewN nd) fun _ _ => rfl).below hb8).below ((Below.refl _ w8).alloc (Nat.le_refl _) _))
             have B8 : (w8.alloc (.cells #[.int .i64 x, .int .i64 y] 25)).heap[w8.heap.size]? = some (.cells #[.int .i64 x, .int .i64 y] 25 (0, 0)) := World.alloc_heap_new _ _
             have hW8 : Below b W0 (w8.alloc (.cells #[.int .i64 x, .int .i64 y] 25)) := ((below_drewN hbw nd).trans (hb8.mono hbz)).alloc (by omega) _
             have z8 : (w8.alloc (.cells #[.int .i64 x, .int .i64 y] 25)).heap.size = w8.heap.size + 1 := by simp
             have g1 : ¬ w8.heap.size = L := by omega
             have g2 : ¬ L = w8.heap.size := by omega
             have g3 : ¬ w8.heap.size = L + 1 := by omega
             have g4 : ¬ L + 1 = w8.heap.size := by omega
             have g5 : ¬ w8.heap.size = M := by omega
             obtain ⟨⟨c0, c1, c2, c3⟩, f0, f1, f2, f3⟩ := S8.facts
             clear hb8 q62 q55)
          | (at_lookup; refine wpList_lookup_own_ok_int _ rfl _ _ 98 rfl 25 3 .i64 law25 Try.underlying98 Try.underlying3 (zero3 _) M k _ rfl S8.map _ _ rfl hkey ?_; intro cv hatv hwcv; rw [hhas]; clear hatv)
          | (go_at_call 63; (with_reducible refine (r1 _).mono ?_); rintro e' wa ⟨rfl, hba⟩
             have Sa := S8.mono.below hba
             have Ba := (hba.block w8.heap.size (by omega)).trans B8
             have hWa : Below b W0 wa := hW8.trans (hba.mono (Nat.le_trans hbW0 hW8.size))
             have za : w8.heap.size + 1 ≤ wa.heap.size := by have := hba.size; omega
             clear S8 B8 hW8 c0 c1 c2 c3 f0 f1 f2 f3 hba r1 
             obtain ⟨⟨c0, c1, c2, c3⟩, f0, f1, f2, f3⟩ := Sa.facts
             have d0 : wa.cell? ⟨w8.heap.size, 0, none⟩ = some (.int .i64 x) := by simp [World.cell?, Ba]
             have d1 : wa.cell? ⟨w8.heap.size, 1, none⟩ = some (.int .i64 y) := by simp [World.cell?, Ba])
          | (go_at_call 63; (with_reducible refine (r2 _).mono ?_); rintro e' wb ⟨rfl, hbb⟩
             have Sb := Sa.below hbb
             have Bb := (hbb.block w8.heap.size (by omega)).trans Ba
             have hWb : Below b W0 wb := hWa.trans (hbb.mono (Nat.le_trans hbW0 hWa.size))
             clear Sa Ba hWa c0 c1 c2 c3 f0 f1 f2 f3 d0 d1 hbb r2
             obtain ⟨⟨c0, c1, c2, c3⟩, f0, f1, f2, f3⟩ := Sb.facts
             have d0 : wb.cell? ⟨w8.heap.size, 0, none⟩ = some (.int .i64 x) := by simp [World.cell?, Bb]
             have d1 : wb.cell? ⟨w8.heap.size, 1, none⟩ = some (.int .i64 y) := by simp [World.cell?, Bb]))
        refine ⟨⟨k + 1, by omega, by go_num, ?_, ?_⟩, by simp [intOf]; omega⟩
        · rw [hm'.out, hl'.out, hh'.out]
          obtain ⟨i1, i2, i3, i4, i5, i6⟩ := hex.out
          rw [i3, i4, i1, i2]
          exact (Sb.setHi x y)
        · exact ((hWb.setCell (p := ⟨L + 1, 0, none⟩) (Nat.le_succ_of_le hLW) (.int .i64 x)).setCell (p := ⟨L + 1, 1, none⟩) (Nat.le_succ_of_le hLW) (.int .i64 y))
      · -- has 1, less 1, greater 0
        have hm' : Keep (fmap P g (k + 1) = D) := ⟨by rw [hmk.out, hhas]; rfl⟩
        have hl' : Keep (loF g (k + 1) = e) := ⟨by rw [hlk.out]; exact if_pos (of_decide_eq_true hless1)⟩
        have hh' : Keep (hiF g (k + 1) = up) := ⟨by rw [hhk.out]; exact if_neg (of_decide_eq_false hless2)⟩
        clear hmk hlk hhk hless1 hless2
        go_wp2_with (first
          | (go_at_call 62; (with_reducible refine q62.mono ?_); rintro e' w6 ⟨rfl, nd, rfl⟩)
          | (go_at_call 55; (with_reducible refine (q55 _).mono ?_); rintro e' w8 ⟨rfl, hb8⟩
             have hs8 : wr.heap.size ≤ w8.heap.size := hb8.size
             have S8 : IvAt (w8.alloc (.cells #[.int .i64 x, .int .i64 y] 25)) b M L N n (mid zs N) k D x1 y1 x2 y2 := (((hSk.out.same (W' := wr.drewN nd) fun _ _ => rfl).below hb8).below ((Below.refl _ w8).alloc (Nat.le_refl _) _))
             have B8 : (w8.alloc (.cells #[.int .i64 x, .int .i64 y] 25)).heap[w8.heap.size]? = some (.cells #[.int .i64 x, .int .i64 y] 25 (0, 0)) := World.alloc_heap_new _ _
             have hW8 : Below b W0 (w8.alloc (.cells #[.int .i64 x, .int .i64 y] 25)) := ((below_drewN hbw nd).trans (hb8.mono hbz)).alloc (by omega) _
             have z8 : (w8.alloc (.cells #[.int .i64 x, .int .i64 y] 25)).heap.size = w8.heap.size + 1 := by simp
             have g1 : ¬ w8.heap.size = L := by omega
             have g2 : ¬ L = w8.heap.size := by omega
             have g3 : ¬ w8.heap.size = L + 1 := by omega
             have g4 : ¬ L + 1 = w8.heap.size := by omega
             have g5 : ¬ w8.heap.size = M := by omega
             obtain ⟨⟨c0, c1, c2, c3⟩, f0, f1, f2, f3⟩ := S8.facts
             clear hb8 q62 q55)
          | (at_lookup; refine wpList_lookup_own_ok_int _ rfl _ _ 98 rfl 25 3 .i64 law25 Try.underlying98 Try.underlying3 (zero3 _) M k _ rfl S8.map _ _ rfl hkey ?_; intro cv hatv hwcv; rw [hhas]; clear hatv)
          | (go_at_call 63; (with_reducible refine (r1 _).mono ?_); rintro e' wa ⟨rfl, hba⟩
             have Sa := S8.mono.below hba
             have Ba := (hba.block w8.heap.size (by omega)).trans B8
             have hWa : Below b W0 wa := hW8.trans (hba.mono (Nat.le_trans hbW0 hW8.size))
             have za : w8.heap.size + 1 ≤ wa.heap.size := by have := hba.size; omega
             clear S8 B8 hW8 c0 c1 c2 c3 f0 f1 f2 f3 hba r1 
             obtain ⟨⟨c0, c1, c2, c3⟩, f0, f1, f2, f3⟩ := Sa.facts
             have d0 : wa.cell? ⟨w8.heap.size, 0, none⟩ = some (.int .i64 x) := by simp [World.cell?, Ba]
             have d1 : wa.cell? ⟨w8.heap.size, 1, none⟩ = some (.int .i64 y) := by simp [World.cell?, Ba])
          | (go_at_call 63; (with_reducible refine (r2 _).mono ?_); rintro e' wb ⟨rfl, hbb⟩
             have Sb := (Sa.setLo x y).below hbb
             have Bb := (hbb.block w8.heap.size (by simp [World.setCell]; omega)).trans (put_other (put_other Ba (by omega) _) (by omega) _)
             have hWb : Below b W0 wb := ((hWa.setCell (p := ⟨L, 0, none⟩) hLW (.int .i64 x)).setCell (p := ⟨L, 1, none⟩) hLW (.int .i64 y)).trans (hbb.mono (Nat.le_trans hbW0 ((hWa.setCell (p := ⟨L, 0, none⟩) hLW (.int .i64 x)).setCell (p := ⟨L, 1, none⟩) hLW (.int .i64 y)).size))
             clear Sa Ba hWa c0 c1 c2 c3 f0 f1 f2 f3 d0 d1 hbb r2
             obtain ⟨⟨c0, c1, c2, c3⟩, f0, f1, f2, f3⟩ := Sb.facts
             have d0 : wb.cell? ⟨w8.heap.size, 0, none⟩ = some (.int .i64 x) := by simp [World.cell?, Bb]
             have d1 : wb.cell? ⟨w8.heap.size, 1, none⟩ = some (.int .i64 y) := by simp [World.cell?, Bb]))
        refine ⟨⟨k + 1, by omega, by go_num, ?_, ?_⟩, by simp [intOf]; omega⟩
        · rw [hm'.out, hl'.out, hh'.out]
          obtain ⟨i1, i2, i3, i4, i5, i6⟩ := hex.out
          rw [i1, i2, i5, i6]
          exact Sb
        · exact hWb
      · -- has 1, less 1, greater 1
        have hm' : Keep (fmap P g (k + 1) = D) := ⟨by rw [hmk.out, hhas]; rfl⟩
        have hl' : Keep (loF g (k + 1) = e) := ⟨by rw [hlk.out]; exact if_pos (of_decide_eq_true hless1)⟩
        have hh' : Keep (hiF g (k + 1) = e) := ⟨by rw [hhk.out]; exact if_pos (of_decide_eq_true hless2)⟩
        clear hmk hlk hhk hless1 hless2
        go_wp2_with (first
          | (go_at_call 62; (with_reducible refine q62.mono ?_); rintro e' w6 ⟨rfl, nd, rfl⟩)
          | (go_at_call 55; (with_reducible refine (q55 _).mono ?_); rintro e' w8 ⟨rfl, hb8⟩
             have hs8 : wr.heap.size ≤ w8.heap.size := hb8.size
             have S8 : IvAt (w8.alloc (.cells #[.int .i64 x, .int .i64 y] 25)) b M L N n (mid zs N) k D x1 y1 x2 y2 := (((hSk.out.same (W' := wr.drewN nd) fun _ _ => rfl).below hb8).below ((Below.refl _ w8).alloc (Nat.le_refl _) _))
             have B8 : (w8.alloc (.cells #[.int .i64 x, .int .i64 y] 25)).heap[w8.heap.size]? = some (.cells #[.int .i64 x, .int .i64 y] 25 (0, 0)) := World.alloc_heap_new _ _
             have hW8 : Below b W0 (w8.alloc (.cells #[.int .i64 x, .int .i64 y] 25)) := ((below_drewN hbw nd).trans (hb8.mono hbz)).alloc (by omega) _
             have z8 : (w8.alloc (.cells #[.int .i64 x, .int .i64 y] 25)).heap.size = w8.heap.size + 1 := by simp
             have g1 : ¬ w8.heap.size = L := by omega
             have g2 : ¬ L = w8.heap.size := by omega
             have g3 : ¬ w8.heap.size = L + 1 := by omega
             have g4 : ¬ L + 1 = w8.heap.size := by omega
             have g5 : ¬ w8.heap.size = M := by omega
             obtain ⟨⟨c0, c1, c2, c3⟩, f0, f1, f2, f3⟩ := S8.facts
             clear hb8 q62 q55)
          | (at_lookup; refine wpList_lookup_own_ok_int _ rfl _ _ 98 rfl 25 3 .i64 law25 Try.underlying98 Try.underlying3 (zero3 _) M k _ rfl S8.map _ _ rfl hkey ?_; intro cv hatv hwcv; rw [hhas]; clear hatv)
          | (go_at_call 63; (with_reducible refine (r1 _).mono ?_); rintro e' wa ⟨rfl, hba⟩
             have Sa := S8.mono.below hba
             have Ba := (hba.block w8.heap.size (by omega)).trans B8
             have hWa : Below b W0 wa := hW8.trans (hba.mono (Nat.le_trans hbW0 hW8.size))
             have za : w8.heap.size + 1 ≤ wa.heap.size := by have := hba.size; omega
             clear S8 B8 hW8 c0 c1 c2 c3 f0 f1 f2 f3 hba r1 
             obtain ⟨⟨c0, c1, c2, c3⟩, f0, f1, f2, f3⟩ := Sa.facts
             have d0 : wa.cell? ⟨w8.heap.size, 0, none⟩ = some (.int .i64 x) := by simp [World.cell?, Ba]
             have d1 : wa.cell? ⟨w8.heap.size, 1, none⟩ = some (.int .i64 y) := by simp [World.cell?, Ba])
          | (go_at_call 63; (with_reducible refine (r2 _).mono ?_); rintro e' wb ⟨rfl, hbb⟩
             have Sb := (Sa.setLo x y).below hbb
             have Bb := (hbb.block w8.heap.size (by simp [World.setCell]; omega)).trans (put_other (put_other Ba (by omega) _) (by omega) _)
             have hWb : Below b W0 wb := ((hWa.setCell (p := ⟨L, 0, none⟩) hLW (.int .i64 x)).setCell (p := ⟨L, 1, none⟩) hLW (.int .i64 y)).trans (hbb.mono (Nat.le_trans hbW0 ((hWa.setCell (p := ⟨L, 0, none⟩) hLW (.int .i64 x)).setCell (p := ⟨L, 1, none⟩) hLW (.int .i64 y)).size))
             clear Sa Ba hWa c0 c1 c2 c3 f0 f1 f2 f3 d0 d1 hbb r2
             obtain ⟨⟨c0, c1, c2, c3⟩, f0, f1, f2, f3⟩ := Sb.facts
             have d0 : wb.cell? ⟨w8.heap.size, 0, none⟩ = some (.int .i64 x) := by simp [World.cell?, Bb]
             have d1 : wb.cell? ⟨w8.heap.size, 1, none⟩ = some (.int .i64 y) := by simp [World.cell?, Bb]))
        refine ⟨⟨k + 1, by omega, by go_num, ?_, ?_⟩, by simp [intOf]; omega⟩
        · rw [hm'.out, hl'.out, hh'.out]
          obtain ⟨i1, i2, i3, i4, i5, i6⟩ := hex.out
          rw [i1, i2]
          exact (Sb.setHi x y)
        · exact ((hWb.setCell (p := ⟨L + 1, 0, none⟩) (Nat.le_succ_of_le hLW) (.int .i64 x)).setCell (p := ⟨L + 1, 1, none⟩) (Nat.le_succ_of_le hLW) (.int .i64 y))
    · have hkN : k = N + 1 := by omega
      rw [hkN] at hS ⊢
      rw [show ((N + 1 : Nat) : Int) = (N : Int) + 1 by push_cast; rfl]
      obtain ⟨⟨i, hi, ei, fi⟩, hlo⟩ := lo_spec hgz.out N
      obtain ⟨⟨j, hj, ej, fj⟩, hhi⟩ := hi_spec hgz.out N
      obtain ⟨bl1, bl2, bl3, bl4⟩ := hlob.out (N + 1) (Nat.le_refl _)
      obtain ⟨lo, hloe⟩ : ∃ lo, loF g (N + 1) = lo := ⟨_, rfl⟩
      obtain ⟨up, hupe⟩ : ∃ up, hiF g (N + 1) = up := ⟨_, rfl⟩
      rw [hloe] at bl1 bl2 ei hlo hS
      rw [hupe] at bl3 bl4 ej hhi hS
      have hlu : lo ≤ up := by have := hlo 0 (by omega); have := hhi 0 (by omega); omega
      have hsp := (fmap_spec (P := P) (g := g) (K := N + 1) hP1.out.1 (by have := hP1.out.2; omega) (fun t ht => by have := hgb.out t (by omega); omega) (N + 1) (Nat.le_refl _)).2
      have si := hsp i hi (fun t ht => by have := fi t ht; omega) (.lit (.int .i64 0))
      have sj := hsp j hj (fun t ht => by have := fj t ht; omega) (.lit (.int .i64 0))
      rw [ei] at si
      rw [ej] at sj
      have kyl := key_red (e := lo) hP1.out.1 (by have := hP1.out.2; omega) (by omega)
      have kyu := key_red (e := up) hP1.out.1 (by have := hP1.out.2; omega) (by omega)
      have hri : ∀ m, (Instr.lookup 98 (.map (some M)) (fracV (redN lo P) (redD lo P)) false).run Try.prog (wr.drewN m) = .ok (.int .i64 i) (wr.drewN m) := fun m => by
        obtain ⟨ci, hri, hai, _⟩ := (map_same (W' := wr.drewN m) hS.map rfl).lookup_int law25 Try.underlying98 Try.underlying3 (zero3 _) kyl
        rw [si] at hai
        obtain rfl : (i : Int) = ci := by simpa using hai
        exact hri
      have hrj : ∀ m, (Instr.lookup 98 (.map (some M)) (fracV (redN up P) (redD up P)) false).run Try.prog (wr.drewN m) = .ok (.int .i64 j) (wr.drewN m) := fun m => by
        obtain ⟨cj, hrj, haj, _⟩ := (map_same (W' := wr.drewN m) hS.map rfl).lookup_int law25 Try.underlying98 Try.underlying3 (zero3 _) kyu
        rw [sj] at haj
        obtain rfl : (j : Int) = cj := by simpa using haj
        exact hrj
      have tu := red_term (e := up) hP1.out.1 hP1.out.2 (by omega)
      have tl := red_term_neg (e := lo) hP1.out.1 hP1.out.2 (by omega)
      have hdf : ∀ D : Nat, (D : Int) = up - lo → _ := fun D hD => red_diff (lo := lo) (up := up) hP1.out.1 hlu hD
      have hDD : (((g j - g i).natAbs : Nat) : Int) = up - lo := by rw [ei, ej]; omega
      obtain ⟨dN, dD⟩ := hdf _ hDD
      have hneq : lo ≠ up → ¬ (redN lo P = redN up P ∧ redD lo P = redD up P) := fun h h' => h (red_inj_int hP1.out.1 h'.1 h'.2)
      obtain ⟨_, yl0, yl1, xl0, xl1⟩ := red_parts lo hP1.out.1
      have heq' : lo = up → redN lo P = redN up P ∧ redD lo P = redD up P := fun h => by rw [h]; exact ⟨rfl, rfl⟩
      obtain ⟨x1, hx1⟩ : ∃ x, redN lo P = x := ⟨_, rfl⟩
      obtain ⟨y1, hy1⟩ : ∃ y, redD lo P = y := ⟨_, rfl⟩
      obtain ⟨x2, hx2⟩ : ∃ x, redN up P = x := ⟨_, rfl⟩
      obtain ⟨y2, hy2⟩ : ∃ y, redD up P = y := ⟨_, rfl⟩
      rw [hx1] at xl0 xl1
      rw [hx1, hy1] at hS hri tl dN dD hneq heq'
      rw [hx2, hy2] at hS hrj tu dN dD hneq heq'
      have q65 := fun w => negative_any (a := x1) (b := y1) (IntWalk.i64_in _ (by omega)) w
      have q64 := fun w => sum_any tu tl w
      rw [dN, dD] at q64
      obtain ⟨rx, hrx⟩ : ∃ x, Keep (redN ((g j - g i).natAbs : Nat) P = x) := ⟨_, ⟨rfl⟩⟩
      obtain ⟨ry, hry⟩ : ∃ x, Keep (redD ((g j - g i).natAbs : Nat) P = x) := ⟨_, ⟨rfl⟩⟩
      rw [hrx.out, hry.out] at q64
      unfold fracV at q65 q64 hri hrj
      have hblk : Keep ((wr.heap[L]? = some (.cells #[.int .i64 x1, .int .i64 y1] 25 (0, 0)) ∧ wr.heap[L + 1]? = some (.cells #[.int .i64 x2, .int .i64 y2] 25 (0, 0))) ∧ L + 1 < wr.heap.size ∧ w.heap.size + 1 < L) := ⟨⟨hS.lo, hS.hi⟩, hS.lt, by have := hS.ord; have := hres.out; omega⟩
      have hriK := Keep.mk hri
      have hrjK := Keep.mk hrj
      clear hri hrj
      obtain ⟨⟨c0, c1, c2, c3⟩, f0, f1, f2, f3⟩ := hS.facts
      obtain ⟨⟨R0, R1⟩, R2, R3⟩ := hres.out
      have hbb : b ≤ wr.heap.size := hbz
      have R0 := (hbw.block w.heap.size (by omega)).trans R0
      have R1 := (hbw.block (w.heap.size + 1) (by omega)).trans R1
      have hbwk := Keep.mk (hbw0.out.trans (hbw.mono (by omega)))
      have hlt1 : w.heap.size + 1 < wr.heap.size := by omega
      have hifact : Keep (i ≤ N ∧ j ≤ N ∧ g i = lo ∧ g j = up ∧ (∀ t, t < N + 1 → lo ≤ g t) ∧ (∀ t, t < N + 1 → g t ≤ up) ∧ (∀ t, t < i → g i < g t) ∧ (∀ t, t < j → g t < g j)) := ⟨by omega, by omega, ei, ej, hlo, hhi, fi, fj⟩
      have hord := hS.ord
      have g1 : ¬ L = w.heap.size := by omega
      have g2 : ¬ w.heap.size = L := by omega
      have g3 : ¬ L + 1 = w.heap.size := by omega
      have g4 : ¬ w.heap.size = L + 1 := by omega
      have g5 : ¬ L = w.heap.size + 1 := by omega
      have g6 : ¬ w.heap.size + 1 = L := by omega
      have g8 : ¬ w.heap.size + 1 = L + 1 := by omega
      have gg : ∀ W : World, W.heap[w.heap.size]? = some (.cells #[.int .i64 0, .int .i64 0] 25 (0, 0)) → W.cell? ⟨w.heap.size, 0, none⟩ = some (.int .i64 0) ∧ W.cell? ⟨w.heap.size, 1, none⟩ = some (.int .i64 0) ∧ W.frozen? ⟨w.heap.size, 0, none⟩ = false ∧ W.frozen? ⟨w.heap.size, 1, none⟩ = false := fun W h => by simp [World.cell?, World.frozen?, h]
      have gh : ∀ W : World, W.heap[w.heap.size + 1]? = some (.cells #[.int .i64 0, .int .i64 0] 39 (0, 0)) → W.cell? ⟨w.heap.size + 1, 0, none⟩ = some (.int .i64 0) ∧ W.cell? ⟨w.heap.size + 1, 1, none⟩ = some (.int .i64 0) ∧ W.frozen? ⟨w.heap.size + 1, 0, none⟩ = false ∧ W.frozen? ⟨w.heap.size + 1, 1, none⟩ = false := fun W h => by simp [World.cell?, World.frozen?, h]
      have ggk := Keep.mk gg
      have ghk := Keep.mk gh
      have R0k := Keep.mk R0
      have R1k := Keep.mk R1
      clear gg gh R0 R1 bl1 bl2 bl3 bl4 hi hj ei ej fi fj hlo hhi hloe hupe hsp si sj kyl kyu tu tl hdf hDD dN dD hx1 hy1 hx2 hy2 hres hS hI0 hbw hbz yl0 yl1 xl0 xl1 hlt hk hkN hord
      by_cases heq : lo = up
      · obtain ⟨rfl, rfl⟩ := heq' heq
        have e25 : ∀ w, (Op.equalIn 10000 25 (.agg #[.int .i64 x1, .int .i64 y1]) (.agg #[.int .i64 x1, .int .i64 y1])).run Try.prog w = .ok true w := fun w => by rw [eq25]; simp
        have hP0 := hP1.out.1
        have hNk := Keep.mk hN1
        have hflat : Keep (∀ t, t ≤ N → g t = g 0) := ⟨fun t ht => by
          obtain ⟨a1, a2, a3, a4, a5, a6, _⟩ := hifact.out
          have := a5 t (by omega); have := a6 t (by omega); have := a5 0 (by omega); have := a6 0 (by omega); omega⟩
        clear hneq q65 q64 hriK hrjK hlu heq heq'
        go_wp2_with (go_at_call 61; (with_reducible refine (q61c.out _).mono ?_); rintro e wz ⟨rfl, hbz⟩
                     have Rz0 := (hbz.block w.heap.size (by omega)).trans R0k.out
                     have Rz1 := (hbz.block (w.heap.size + 1) (by omega)).trans R1k.out
                     obtain ⟨u0, u1, v0, v1⟩ := ggk.out _ Rz0
                     obtain ⟨u2, u3, v2, v3⟩ := ghk.out _ Rz1)
        refine bodyPost_ret (v := .tuple #[.agg #[.int .i64 0, .int .i64 1], .agg #[.int .i64 0, .int .i64 1], .int .i64 0]) (by simp [results, Try.results23, go_sem]; go_simp) rfl ?_
        obtain ⟨z1, z2⟩ := red_zero hP0
        refine ⟨0, 0, 1, by rw [show ((0 : Nat) : Int) = 0 from rfl, z1, z2]; rfl, by rw [← hg.out]; exact pair_flat hNk.out hflat.out, ?_⟩
        exact (((((hbwk.out.trans (hbz.mono (by omega))).setCell (p := ⟨w.heap.size, 0, none⟩) (Nat.le_refl _) _).setCell (p := ⟨w.heap.size, 1, none⟩) (Nat.le_refl _) _).setCell (p := ⟨w.heap.size + 1, 0, none⟩) (by simp) _).setCell (p := ⟨w.heap.size + 1, 1, none⟩) (by simp) _)
      · have hne := hneq heq
        have e25 : ∀ w, (Op.equalIn 10000 25 (.agg #[.int .i64 x1, .int .i64 y1]) (.agg #[.int .i64 x2, .int .i64 y2])).run Try.prog w = .ok false w := fun w => by
          rw [eq25, show (x1 == x2 && y1 == y2) = false by rw [Bool.and_eq_false_iff, beq_eq_false_iff_ne, beq_eq_false_iff_ne]; by_cases h : x1 = x2; exact .inr fun h' => hne ⟨h, h'⟩; exact .inl h]
        have hltk : Keep (lo < up) := ⟨by omega⟩
        clear hneq hne
        have hri' : ∀ m, (Instr.lookup 98 (.map (some M)) (.agg #[.int .i64 x1, .int .i64 y1]) false).run Try.prog (wr.drewN m) = .ok (.int .i64 i) (wr.drewN m) := hriK.out
        have hrj' : ∀ m, (Instr.lookup 98 (.map (some M)) (.agg #[.int .i64 x2, .int .i64 y2]) false).run Try.prog (wr.drewN m) = .ok (.int .i64 j) (wr.drewN m) := hrjK.out
        go_wp2
        go_quiet (fail)
        obtain ⟨mn, hmn, hmnk⟩ : ∃ mn : Nat, (if j < i then (j : Int) else (i : Int)) = (mn : Int) ∧ Keep (min i j = mn) := ⟨min i j, by split <;> omega, ⟨rfl⟩⟩
        obtain ⟨mx, hmx, hmxk⟩ : ∃ mx : Nat, (if i < j then (j : Int) else (i : Int)) = (mx : Int) ∧ Keep (max i j = mx) := ⟨max i j, by split <;> omega, ⟨rfl⟩⟩
        go_wp2
        obtain ⟨⟨bL0, bL1⟩, bL2, bL3⟩ := hblk.out
        have hmo : Try.prog.follows .mixedOrders = true := by kernel_rfl
        refine (wpIn_wide (n := 0)).1 ?_
        refine Many.region_many (Cl21 w L x1 y1 x2 y2 rx ry mn mx) hmo (by kernel_rfl) (fun s s' W' h hc => by rw [← show s = s' from funext h]; exact hc) (fun s hs => ?_) ?_
        · refine ⟨bL0, bL1, ?_, ?_, bL2, bL3, (below_drewN hbwk.out (nq + 1))⟩
          · rw [hs 11 (by decide)]; exact R0k.out
          · rw [hs 12 (by decide)]; exact R1k.out
        clear hmm e25 hri' hrj' hriK hrjK q61c heq hgz hgb hlob f0 f1 f2 f3 c0 c1 c2 c3 bL0 bL1 bL2 bL3 hbwk R0k R1k ggk ghk hblk
        have rd : ∀ {k : Nat} {o : Oper} {a : Act} {v : Value}, k ≠ 11 → k ≠ 12 → (∀ W, (∃ s, Cl21 w L x1 y1 x2 y2 rx ry mn mx s W) → (execOp a.eval o).run Try.prog W = .ok (.value v) W) → Many.Tr Try.prog (Cl21 w L x1 y1 x2 y2 rx ry mn mx) k o a v :=
          fun h1 h2 h => Many.tr_read (fun W => ∃ s, Cl21 w L x1 y1 x2 y2 rx ry mn mx s W) (fun s W hC => ⟨s, hC⟩) (fun s W hC => hC.read h1 h2) h
        refine Many.lex_want (by rfl) (rd (v := .agg #[.int .i64 x2, .int .i64 y2]) (by decide) (by decide) (fun W ⟨s, hC⟩ => by
          obtain ⟨⟨c0, c1, c2, c3⟩, _⟩ := hC.facts
          go_simp)) ?_
        simp only [Act.put, List.setIfInBounds_toArray, List.set_cons_succ, List.set_cons_zero, Nat.reduceAdd]
        refine Many.lex_want (by rfl) (rd (v := .agg #[.int .i64 x1, .int .i64 y1]) (by decide) (by decide) (fun W ⟨s, hC⟩ => by
          obtain ⟨⟨c0, c1, c2, c3⟩, _⟩ := hC.facts
          go_simp)) ?_
        simp only [Act.put, List.setIfInBounds_toArray, List.set_cons_succ, List.set_cons_zero, Nat.reduceAdd]
        refine Many.lex_want (by rfl) (Many.tr_call (f := 65) (args := #[.agg #[.int .i64 x1, .int .i64 y1]]) (v := .agg #[.int .i64 (-x1), .int .i64 y1]) (fun _ => True) (fun _ _ _ => trivial) (fun s W hC => (q65 W).mono fun e W' ⟨he, hb⟩ => ⟨he, (hC.below hb).read (by decide) (by decide)⟩) (fun W _ => by go_simp)) ?_
        simp only [Act.put, List.setIfInBounds_toArray, List.set_cons_succ, List.set_cons_zero, Nat.reduceAdd]
        refine Many.lex_want (by rfl) (Many.tr_call (f := 64) (args := #[.agg #[.int .i64 x2, .int .i64 y2], .agg #[.int .i64 (-x1), .int .i64 y1]]) (v := .agg #[.int .i64 rx, .int .i64 ry]) (fun _ => True) (fun _ _ _ => trivial) (fun s W hC => (q64 W).mono fun e W' ⟨he, hb⟩ => ⟨he, (hC.below hb).read (by decide) (by decide)⟩) (fun W _ => by go_simp)) ?_
        simp only [Act.put, List.setIfInBounds_toArray, List.set_cons_succ, List.set_cons_zero, Nat.reduceAdd]
        iterate 2
          (refine Many.lex_want (by rfl) (rd (by decide) (by decide) (fun W _ => by (go_simp; try rfl))) ?_
           simp only [Act.put, List.setIfInBounds_toArray, List.set_cons_succ, List.set_cons_zero, Nat.reduceAdd])
        refine Many.lex_want (by rfl) (rd (v := .int .i64 mn) (by decide) (by decide) (fun W _ => by (rw [← hmn]; go_simp))) ?_
        simp only [Act.put, List.setIfInBounds_toArray, List.set_cons_succ, List.set_cons_zero, Nat.reduceAdd]
        iterate 2
          (refine Many.lex_want (by rfl) (rd (by decide) (by decide) (fun W _ => by (go_simp; try rfl))) ?_
           simp only [Act.put, List.setIfInBounds_toArray, List.set_cons_succ, List.set_cons_zero, Nat.reduceAdd])
        refine Many.lex_want (by rfl) (rd (v := .int .i64 mx) (by decide) (by decide) (fun W _ => by (rw [← hmx]; go_simp))) ?_
        simp only [Act.put, List.setIfInBounds_toArray, List.set_cons_succ, List.set_cons_zero, Nat.reduceAdd]
        refine Many.lex_want (by rfl) (rd (v := .agg #[.int .i64 mn, .int .i64 mx]) (by decide) (by decide) (fun W _ => by (go_simp; try rfl))) ?_
        simp only [Act.put, List.setIfInBounds_toArray, List.set_cons_succ, List.set_cons_zero, Nat.reduceAdd]
        refine Many.lex_want (by rfl) (Many.tr_step (v := undef) (fun s W h11 hC => ?_)) ?_
        · obtain ⟨_, ⟨u0, u1, v0, v1⟩, _⟩ := hC.facts
          rw [h11] at u0 u1
          have hst := hC.store11
          go_simp
          exact ⟨rfl, hst⟩
        simp only [Act.put, List.setIfInBounds_toArray, List.set_cons_succ, List.set_cons_zero, Nat.reduceAdd]
        refine Many.lex_want (by rfl) (Many.tr_step (v := undef) (fun s W h12 hC => ?_)) ?_
        · obtain ⟨_, _, ⟨u0, u1, v0, v1⟩⟩ := hC.facts
          rw [h12] at u0 u1
          have hst := hC.store12
          go_simp
          exact ⟨rfl, hst⟩
        simp only [Act.put, List.setIfInBounds_toArray, List.set_cons_succ, List.set_cons_zero, Nat.reduceAdd]
        refine Many.lex_want (by rfl) (rd (v := .int .i64 0) (by decide) (by decide) (fun W _ => by (go_simp; try rfl))) ?_
        simp only [Act.put, List.setIfInBounds_toArray, List.set_cons_succ, List.set_cons_zero, Nat.reduceAdd]
        refine Many.lex_nil fun s W' hs hC => ?_
        have hfin := hC.fin (hs 11 (by decide)) (hs 12 (by decide))
        obtain ⟨⟨u0, u1⟩, ⟨u2, u3⟩, hbl⟩ := hfin
        clear hC
        go_wp2
        refine bodyPost_ret (v := .tuple #[.agg #[.int .i64 rx, .int .i64 ry], .agg #[.int .i64 mn, .int .i64 mx], .int .i64 0]) (by simp [results, Try.results23, go_sem]; go_simp) rfl ?_
        refine ⟨(g j - g i).natAbs, mn, mx, by rw [hrx.out, hry.out]; rfl, ?_, hbl⟩
        obtain ⟨a1, a2, a3, a4, a5, a6, a7, a8⟩ := hifact.out
        rw [← hmnk.out, ← hmxk.out, ← hg.out]
        exact pair_of a1 a2 (fun t ht => by rw [a3]; exact a5 t (by omega)) (fun t ht => by rw [a4]; exact a6 t (by omega)) a7 a8 (by rw [a3, a4]; exact hltk.out)
end Go.Proofs.Ytifbiamfandjnaa

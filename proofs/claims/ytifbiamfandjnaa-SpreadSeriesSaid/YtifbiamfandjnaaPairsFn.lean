import Derived.Test.YtifbiamfandjnaaSeriesFn
set_option linter.unusedSimpArgs false
set_option linter.unusedVariables false
namespace Go.Proofs.Ytifbiamfandjnaa
open Go Go.Proofs Go.RowKit
theorem ty50 : Try.prog.underlying 50 = some (.slice 39) := by kernel_rfl
theorem info39 : (Try.prog.info? 39).map (fun i => (i.zero, i.size, i.bytes)) = some (some (.agg #[.int .i64 0, .int .i64 0]), 2, 16) := by kernel_rfl
/-- A row of pairs. -/
def PairAt (w : World) (G N : Nat) (f g : Nat → Int) : Prop := ∀ j, j < N → (w.cell? ⟨G, j * 2, none⟩ = some (.int .i64 (f j)) ∧ w.frozen? ⟨G, j * 2, none⟩ = false) ∧ (w.cell? ⟨G, j * 2 + 1, none⟩ = some (.int .i64 (g j)) ∧ w.frozen? ⟨G, j * 2 + 1, none⟩ = false)
theorem pair_below {w w' : World} {G N : Nat} {f g : Nat → Int} (h : PairAt w G N f g) (b : Below w.heap.size w w') : PairAt w' G N f g := by
  intro j hj
  obtain ⟨⟨c1, c2⟩, c3, c4⟩ := h j hj
  have h1 : G < w.heap.size := by
    rcases Nat.lt_or_ge G w.heap.size with h' | h'
    · exact h'
    · simp [World.cell?, Array.getElem?_eq_none h'] at c1
  exact ⟨⟨(b.cell (p := ⟨G, j * 2, none⟩) h1).trans c1, (b.frozen (p := ⟨G, j * 2, none⟩) h1).trans c2⟩, (b.cell (p := ⟨G, j * 2 + 1, none⟩) h1).trans c3, (b.frozen (p := ⟨G, j * 2 + 1, none⟩) h1).trans c4⟩
theorem pair_set {w : World} {G N p : Nat} {f g f' g' : Nat → Int} (h : PairAt w G N f g) (hp : p < N) {x y : Int} (hx : f' p = x) (hy : g' p = y) (hf : ∀ j, j < N → j ≠ p → f' j = f j ∧ g' j = g j) :
    PairAt ((w.setCell ⟨G, p * 2, none⟩ (.int .i64 x)).setCell ⟨G, p * 2 + 1, none⟩ (.int .i64 y)) G N f' g' := by
  intro j hj
  obtain ⟨⟨c1, c2⟩, c3, c4⟩ := h j hj
  obtain ⟨⟨d1, d2⟩, d3, d4⟩ := h p hp
  by_cases hjp : j = p
  · subst hjp
    rw [hx, hy]
    refine ⟨⟨?_, ?_⟩, ?_, ?_⟩ <;> go_simp
  · obtain ⟨e1, e2⟩ := hf j hj hjp
    rw [e1, e2]
    have n1 : ¬ j * 2 = p * 2 := by omega
    have n2 : ¬ j * 2 = p * 2 + 1 := by omega
    have n3 : ¬ j * 2 + 1 = p * 2 := by omega
    have n4 : ¬ j * 2 + 1 = p * 2 + 1 := by omega
    generalize f j = fx at c1 ⊢
    generalize g j = gx at c3 ⊢
    refine ⟨⟨?_, ?_⟩, ?_, ?_⟩ <;> go_simp
theorem pair_start {w : World} {B G n : Nat} (h : w.ownsRow B 39 2 (.slice (some ⟨G, 0, none⟩) n n) n (madeCells (Value.agg #[.int .i64 0, .int .i64 0]).cells (n * 2)).toList) : PairAt w G n (fun _ => 0) (fun _ => 0) := by
  have e : (Value.agg #[.int .i64 0, .int .i64 0]).cells = #[.int .i64 0, .int .i64 0] := rfl
  rw [e] at h
  obtain ⟨h1, h2⟩ := h
  rcases h2 with ⟨h3, _⟩ | ⟨g, cap, cur, hv, hg, hh, hn, hcap, hsz, htake⟩
  · cases h3
  · injection hv with hv1 hv2 hv3
    injection hv1 with hv1
    injection hv1 with hv1
    subst hv1
    have key : ∀ i, i < n * 2 → cur[i]? = some (.int .i64 0) := by
      intro i hi
      have e : (cur.toList.take (n * 2))[i]? = (madeCells #[.int .i64 0, .int .i64 0] (n * 2)).toList[i]? := by rw [htake]
      rw [List.getElem?_take_of_lt hi] at e
      rw [← Array.getElem?_toList, e, Array.getElem?_toList]
      have hi2 : i % 2 = 0 ∨ i % 2 = 1 := by omega
      unfold madeCells
      rcases hi2 with h | h <;> simp [hi, h]
    intro j hj
    refine ⟨⟨?_, ?_⟩, ?_, ?_⟩
    · simp [World.cell?, hh, key (j * 2) (by omega)]
    · simp [World.frozen?, hh]
    · simp [World.cell?, hh, key (j * 2 + 1) (by omega)]
    · simp [World.frozen?, hh]
theorem pairs_nb {b dg : Int} (h : digB b dg = false) (w : World) :
    Calls Try.prog 41 #[.int .i64 b, .int .i64 dg] w fun e w' => e = .returned (.tuple #[.slice none 0 0, .int .i64 2]) ∧ w' = w := by
  have q76 := fun w => sca_no h w
  clear h
  go_enter Try.func41, Try.ntmps41
  go_wp2_with (go_at_call 76; (with_reducible refine (q76 _).mono ?_); rintro e w' ⟨rfl, rfl⟩)
  go_ret2
  exact ⟨rfl, rfl⟩
theorem pairs_no {b D : Nat} (hb1 : 2 ≤ b) (hb2 : b ≤ 16) (h1 : 1 ≤ D) (h2 : D ≤ 9) (h : 60 < b ^ D) (w : World) :
    Calls Try.prog 41 #[.int .i64 b, .int .i64 D] w fun e w' => e = .returned (.tuple #[.slice none 0 0, .int .i64 2]) ∧ w' = w := by
  have q76 := fun w => sca_yes hb1 hb2 h1 h2 w
  obtain ⟨S, hS⟩ : ∃ S, b ^ D = S := ⟨_, rfl⟩
  rw [hS] at q76 h
  clear hS
  obtain ⟨B, hB⟩ : ∃ B, decide ((S : Int) ≤ 1000) = B := ⟨_, rfl⟩
  rw [hB] at q76
  clear hB
  go_enter Try.func41, Try.ntmps41
  cases B
  all_goals go_wp2_with (go_at_call 76; (with_reducible refine (q76 _).mono ?_); rintro e w' ⟨rfl, rfl⟩)
  all_goals go_ret2
  all_goals exact ⟨rfl, rfl⟩
/-- The pairs that come back. -/
def PairsAt (w : World) (v : Value) (b D n : Nat) : Prop := ∃ G, v = .slice (some ⟨G, 0, none⟩) n n ∧ ∀ j, j < n → w.cell? ⟨G, j * 2, none⟩ = some (.int .i64 (j : Nat)) ∧ w.cell? ⟨G, j * 2 + 1, none⟩ = some (.int .i64 (trn b D j 0 : Nat))
set_option maxHeartbeats 1000000 in
set_option maxRecDepth 100000 in
theorem pairs_yes {b D n : Nat} (hb1 : 2 ≤ b) (hb2 : b ≤ 16) (h1 : 1 ≤ D) (h2 : D ≤ 9) (hn : b ^ D = n) (h4 : n ≤ 60) (w : World) :
    Calls Try.prog 41 #[.int .i64 b, .int .i64 D] w fun e w' => ∃ v, e = .returned (.tuple #[v, .int .i64 0]) ∧ PairsAt w' v b D n ∧ Below w.heap.size w w' := by
  obtain ⟨i0, hi, hz0, hz1, hz2⟩ := info_parts info39
  have q76 := fun w => sca_yes hb1 hb2 h1 h2 w
  have h3 : 1 ≤ n := by rw [← hn]; exact Nat.pow_pos (by omega)
  rw [hn] at q76
  rw [show decide ((n : Int) ≤ 1000) = true from decide_eq_true (by omega)] at q76
  have q77 := fun w => mlist_any hb1 hb2 hn (by omega) h3 h4 (Nat.le_refl _) w
  clear hn
  go_enter Try.func41, Try.ntmps41
  go_wp2_with (first
    | (go_at_call 76; (with_reducible refine (q76 _).mono ?_); rintro e w' ⟨rfl, rfl⟩)
    | (go_at_call 77; (with_reducible refine (q77 _).mono ?_); rintro e w6 ⟨rfl, hi6, hb6⟩)
    | (at_make; go_loud (
             refine wpList_make_full _ rfl _ _ 50 rfl w'.heap.size 39 i0 (.agg #[.int .i64 0, .int .i64 0]) 2 ty50 hi hz0 hz1 .i64 .i64 (n : Int) (n : Int) n rfl rfl rfl rfl (by rw [hz2]; omega) (by unfold maxLen; omega) (by simp) ?_
             intro w5 hown5 hgrow5
             have hbw5 : Below w'.heap.size w' w5 := Below.grown (Below.refl _ _) hgrow5 (by simp) (by simp)
             have hGl : Keep (PairAt w5 w'.heap.size n (fun _ => 0) (fun _ => 0)) := ⟨pair_start hown5⟩
             clear hown5 hgrow5)))
  have hs5 : w'.heap.size < w5.heap.size := by
    have := (hGl.out 0 (by omega)).1.1
    rcases Nat.lt_or_ge w'.heap.size w5.heap.size with h | h
    · exact h
    · simp [World.cell?, Array.getElem?_eq_none h] at this
  obtain ⟨A, hA⟩ : ∃ A, A = w5.heap.size := ⟨_, rfl⟩
  have hcells : Keep (∀ j, j < n → w6.cell? ⟨A, j, none⟩ = some (.int .i64 (trn b D j 0 : Nat))) := ⟨fun j hj => by
    obtain ⟨A', cap, hv, hc⟩ := hi6
    obtain ⟨g, hg, h⟩ := hc j (by rw [serL_len]; exact hj)
    injection hv with hv1 hv2 hv3
    rw [hg] at hv1
    injection hv1 with hv1
    injection hv1 with hv1
    rw [hA, hv1, h, serL_at hj]⟩
  have hpair6 : Keep (PairAt w6 w'.heap.size n (fun _ => 0) (fun _ => 0)) := ⟨pair_below hGl.out hb6⟩
  have hbw6 : Below w'.heap.size w' w6 := hbw5.trans (hb6.mono hbw5.size)
  rw [← hA] at hs5 ⊢
  clear hi6 hGl hbw5 hb6 hA q76 q77
  obtain ⟨G, hG⟩ : ∃ G, G = w'.heap.size := ⟨_, rfl⟩
  have hbG : Keep (∀ W, Below G w' W → Below w'.heap.size w' W) := ⟨fun W h => by rw [hG] at h; exact h⟩
  rw [← hG] at hs5 hpair6 hbw6 ⊢
  have hne : ¬ A = G := by omega
  have hne' : ¬ G = A := by omega
  clear hG
  go_loopw [30] (fun i wr => ∃ k : Nat, k ≤ n ∧ i = .int .i64 k ∧ Keep (PairAt wr G n (fun j => if j < k then (j : Int) else 0) (fun j => if j < k then ((trn b D j 0 : Nat) : Int) else 0)) ∧ Keep (∀ j, j < n → wr.cell? ⟨A, j, none⟩ = some (.int .i64 (trn b D j 0 : Nat))) ∧ Below G w' wr) (fun i _ => n - (intOf i).toNat)
  case atStart => exact ⟨0, by omega, rfl, ⟨by simpa using hpair6.out⟩, hcells, hbw6⟩
  case round =>
    obtain ⟨k, hk, rfl, hpr, hcs, hbw⟩ := hrel
    by_cases hlt : k < n
    · have hc := hcs.out k hlt
      obtain ⟨⟨d1, d2⟩, d3, d4⟩ := hpr.out k hlt
      simp only [Nat.lt_irrefl, if_false] at d1 d3
      obtain ⟨T, hT⟩ : ∃ T, Keep (trn b D k 0 = T) := ⟨_, ⟨rfl⟩⟩
      rw [hT.out] at hc
      clear hpair6 hcells hbw6
      go_wp2
      refine ⟨⟨k + 1, by omega, by go_num, ⟨?_⟩, ⟨fun j hj => ?_⟩, (hbw.setCell (p := ⟨G, k * 2, none⟩) (Nat.le_refl _) _).setCell (p := ⟨G, k * 2 + 1, none⟩) (Nat.le_refl _) _⟩, by simp [intOf]; omega⟩
      · refine pair_set hpr.out hlt (by simp) (by simp [hT.out]) (fun j _ hj => ?_)
        by_cases h : j < k
        · have h' : j < k + 1 := by omega
          simp [h, h']
        · have h' : ¬ j < k + 1 := by omega
          simp [h, h']
      · have h := hcs.out j hj
        generalize ((trn b D j 0 : Nat) : Int) = z at h ⊢
        go_simp
    · have : k = n := by omega
      subst this
      go_wp2
      go_ret2
      refine ⟨_, rfl, ⟨G, rfl, fun j hj => ?_⟩, hbG.out _ hbw⟩
      obtain ⟨⟨c1, _⟩, c3, _⟩ := hpr.out j hj
      simp only [hj, if_true] at c1 c3
      exact ⟨c1, c3⟩
end Go.Proofs.Ytifbiamfandjnaa

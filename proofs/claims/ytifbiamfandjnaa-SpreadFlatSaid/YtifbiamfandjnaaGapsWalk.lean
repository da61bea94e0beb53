import Derived.Test.YtifbiamfandjnaaGapsFn
set_option linter.unusedSimpArgs false
set_option linter.unusedVariables false
namespace Go.Proofs.Ytifbiamfandjnaa
open Go Go.Proofs Go.RowKit Go.Sort Go.Lib Gap
theorem gapL_len (N : Nat) (P : List Int) : (gapL N P).length = P.length := by simp [gapL]
theorem gapL_at {N : Nat} {P : List Int} {k : Nat} (h : k < P.length) : (gapL N P).getD k 0 = if k = 0 then P.getD 0 0 - (P.getD (P.length - 1) 0 - (N : Int)) else P.getD k 0 - P.getD (k - 1) 0 := by
  unfold gapL
  rw [List.getD_eq_getElem?_getD, List.getElem?_map, List.getElem?_range h]; rfl
def bef (N n : Nat) (P : List Int) (k : Nat) : Int := if k = 0 then P.getD (n - 1) 0 - (N : Int) else P.getD (k - 1) 0
set_option maxHeartbeats 2000000 in
set_option maxRecDepth 100000 in
theorem gaps_any {N : Nat} {v : Value} {zs : List Int} {w : World} (hv : IntsAt w v zs) (hok : okLine N zs = true) :
    Calls Try.prog 24 #[.int .i64 N, v] w fun e w' => ∃ v' L, e = .returned (.tuple #[v', .int .i64 0]) ∧ GapsOf N zs L ∧ L.length ≤ 60 ∧ IntsAt w' v' L ∧ Below w.heap.size w w' := by
  obtain ⟨i0, hi, hz0, hz1, hz2⟩ := info_parts info3
  have hok1 := hok
  unfold okLine at hok1
  rw [Bool.and_eq_true, decide_eq_true_iff] at hok1
  obtain ⟨⟨k1, k2, k3, k4⟩, hall⟩ := hok1
  have hN1 : 1 ≤ N := by omega
  have hN2 : N ≤ 1000 := by omega
  have q66 := isLine_any hv (by omega) (show -9223372036854775808 ≤ (N : Int) by omega) (by omega)
  rw [hok] at q66
  obtain ⟨A, cap, rfl, hc⟩ := hv
  have hne : zs ≠ [] := fun e => by rw [e] at k3; simp at k3
  obtain ⟨g, rfl, _⟩ := hc 0 (by omega)
  have hc' : ∀ j, j < zs.length → w.cell? ⟨g, j, none⟩ = some (.int .i64 (zs.getD j 0)) := fun j hj => by
    obtain ⟨g', hg', h⟩ := hc j hj
    injection hg' with hg'; injection hg' with hg'
    rw [hg']; exact h
  have hgl : g < w.heap.size := by
    rcases Nat.lt_or_ge g w.heap.size with h' | h'
    · exact h'
    · have := hc' 0 (by omega); simp [World.cell?, Array.getElem?_eq_none h'] at this
  have hcs := compact_sort zs
  have hcne := compact_ne hne
  obtain ⟨S, hS⟩ : ∃ S, (zs.mergeSort fun x y => decide (x ≤ y)) = S := ⟨_, rfl⟩
  have hSl : S.length = zs.length := by rw [← hS]; exact List.length_mergeSort ..
  rw [hS] at hcs hcne
  obtain ⟨P, hP⟩ : ∃ P, compact S = P := ⟨_, rfl⟩
  have hPl : P.length ≤ S.length := by
    rw [← hP]
    have : compact S = compactUpTo S.toArray S.length := rfl
    rw [this]; unfold compactUpTo
    rw [List.length_map]
    exact Nat.le_trans (List.length_filter_le _ _) (by simp)
  rw [hP] at hcs hcne
  have hbd : ∀ z ∈ P, 0 ≤ z ∧ z < (N : Int) := fun z hz => by
    have := List.all_eq_true.1 hall z ((hcs.2 z).1 hz)
    simpa using this
  have hgo := gaps_of hcs.1 hbd hcs.2
  have hP0 : 1 ≤ P.length := by cases hp : P with | nil => exact absurd hp hcne | cons => simp
  obtain ⟨n, hn⟩ : ∃ n, Keep (P.length = n) := ⟨_, ⟨rfl⟩⟩
  have hn60 : n ≤ 60 := by have := hn.out; omega
  have hn1 : 1 ≤ n := by have := hn.out; omega
  obtain ⟨GL, hGL⟩ : ∃ GL, Keep (gapL N P = GL) := ⟨_, ⟨rfl⟩⟩
  have hGLl : GL.length = n := by rw [← hGL.out, gapL_len, hn.out]
  rw [hGL.out] at hgo
  obtain ⟨T, hT⟩ : ∃ T, (GL.mergeSort fun x y => decide (x ≤ y)) = T := ⟨_, rfl⟩
  have hTl : T.length = n := by rw [← hT, ← hGLl]; exact List.length_mergeSort ..
  rw [hT] at hgo
  obtain ⟨R, hR⟩ : ∃ R, compact T = R := ⟨_, rfl⟩
  have hRl : R.length ≤ 60 := by
    rw [← hR]
    have : compact T = compactUpTo T.toArray T.length := rfl
    rw [this]; unfold compactUpTo
    rw [List.length_map]
    have h1 := List.length_filter_le (keeps T.toArray) (List.range T.length)
    rw [List.length_range] at h1
    omega
  rw [hR] at hgo
  have hgok := Keep.mk hgo
  have q70 : ∀ (W : World) (G : Nat), Holds (Value.int .i64) W G 0 GL.toArray → Calls Try.prog 70 #[.slice (some ⟨G, 0, none⟩) n n] W fun e w' => e = .returned (.tuple #[]) ∧ Holds (Value.int .i64) w' G 0 T.toArray ∧ W.grownBy w' (some G) := fun W G hH => by
    have := sort_any (cap := n) hH (fun e => by rw [e] at hGLl; simp at hGLl; omega) (by omega)
    rw [hT, hGLl] at this
    exact this
  have q67b : ∀ (W : World) (G : Nat), Holds (Value.int .i64) W G 0 T.toArray → Calls Try.prog 67 #[.slice (some ⟨G, 0, none⟩) n n] W fun e w' => e = .returned (.slice (some ⟨G, 0, none⟩) R.length n) ∧ Holds (Value.int .i64) w' G 0 R.toArray ∧ W.grownBy w' (some G) := fun W G hH => by
    have := compact_any (cap := n) hH (by omega) (by omega)
    rw [hR, hTl] at this
    exact this
  have hPb : Keep (∀ k, k < n → 0 ≤ P.getD k 0 ∧ P.getD k 0 < (N : Int)) := ⟨fun k hk => hbd _ (getz (by rw [hn.out]; exact hk))⟩
  have hgat : Keep (∀ k, k < n → GL.getD k 0 = if k = 0 then P.getD 0 0 - (P.getD (n - 1) 0 - (N : Int)) else P.getD k 0 - P.getD (k - 1) 0) := ⟨fun k hk => by rw [← hGL.out, gapL_at (by rw [hn.out]; exact hk), hn.out]⟩
  obtain ⟨m, hm⟩ : ∃ m, zs.length = m := ⟨_, rfl⟩
  have q68 := sorted_any (g := g) (cap := cap) (Bs := w.heap.size) (w := w.alloc (.cells #[.slice (some ⟨g, 0, none⟩) zs.length cap] 22)) (zs := zs) (by omega) hne (by simp; omega) (by go_simp) (by simp) (fun j hj => (cell_below (hc' j hj) ((Below.refl _ w).alloc (Nat.le_refl _) _)))
  rw [hm, hS] at q68
  rw [hm] at q66 ⊢
  have hSl : S.length = m := by omega
  have q67 : ∀ (W : World) (G c : Nat), Holds (Value.int .i64) W G 0 S.toArray → m ≤ c → Calls Try.prog 67 #[.slice (some ⟨G, 0, none⟩) m c] W fun e w' => e = .returned (.slice (some ⟨G, 0, none⟩) n c) ∧ RowAt w' G n (fun j => P.getD j 0) ∧ W.grownBy w' (some G) := fun W G c hH hc => by
    have := compact_any (cap := c) hH (by omega) (by omega)
    rw [hP, hn.out, hSl] at this
    refine this.mono ?_
    rintro e w' ⟨h1, h2, h3⟩
    have h2 := row_holds h2
    rw [hn.out] at h2
    exact ⟨h1, h2, h3⟩
  have hk3 : 1 ≤ m := by omega
  have hk4 : m ≤ 60 := by omega
  clear hc hc' hgo hbd hcs hcne hall hok k1 k2 k3 k4 hS hne hPl hP0
  obtain ⟨zl, hzl⟩ : ∃ z, Keep (P.getD (n - 1) 0 = z) := ⟨_, ⟨rfl⟩⟩
  have hzb : 0 ≤ zl ∧ zl < (N : Int) := by rw [← hzl.out]; exact hPb.out (n - 1) (by omega)
  have e0 : wrap64 (zl - (N : Int)) = zl - (N : Int) := by unfold wrap64; omega
  have e0k := Keep.mk e0
  go_enter Try.func24, Try.ntmps24
  go_wp2_with (first
    | (go_at_call 66; refine q66.mono ?_; rintro e w1 ⟨rfl, rfl⟩; clear q66)
    | (go_at_call 69; refine (vals_maker _ _ _ _).mono ?_; rintro e w2 ⟨rfl, rfl⟩)
    | (go_at_call 68; (with_reducible refine q68.mono ?_); rintro e w3 ⟨Gs, cap', rfl, hcap', hGs, hH3, hb3⟩; clear q68)
    | (go_at_call 67; (with_reducible refine (q67 _ _ _ hH3 hcap').mono ?_); rintro e w4 ⟨rfl, hP4, hg4⟩
       have hs3 : w1.heap.size + 1 ≤ w3.heap.size := by have := hb3.size; simpa using this
       have hGs' : w1.heap.size ≤ Gs := by simp at hGs; omega
       have hb34 : Below w1.heap.size w1 w4 := (((Below.refl _ w1).alloc (Nat.le_refl _) _).trans (hb3.mono (by simp))).grown hg4 (by omega) (fun j hj => by cases hj; exact hGs')
       clear hH3 hg4 hb3 hcap' hGs q67)
    | (at_make; go_loud (
             refine wpList_make_full _ rfl _ _ 22 rfl w4.heap.size 3 i0 (.int .i64 0) 1 ty22 hi hz0 hz1 .i64 .i64 (n : Int) (n : Int) n rfl rfl rfl rfl (by rw [hz2]; omega) (by unfold maxLen; omega) (by simp) ?_
             intro w5 hown5 hgrow5
             have hbw5 : Below w4.heap.size w4 w5 := Below.grown (Below.refl _ _) hgrow5 (by simp) (by simp)
             have hGl : RowAt w5 w4.heap.size n (fun _ => 0) := row_start hown5
             have hP5 := row_below hP4 hbw5
             have hl1 := (hP5 (n - 1) (by omega)).1
             simp only [hzl.out] at hl1
             clear hown5 hgrow5)))
  have hP5k := Keep.mk hP5
  obtain ⟨G, hG⟩ : ∃ G, G = w4.heap.size := ⟨_, rfl⟩
  have hs4 : w1.heap.size ≤ w4.heap.size := hb34.size
  have hbG : Keep (∀ W, Below G w4 W → Below w1.heap.size w1 W) := ⟨fun W h => by rw [hG] at h; exact hb34.trans (h.mono hs4)⟩
  have hGlt : Gs < w4.heap.size := by
    rcases Nat.lt_or_ge Gs w4.heap.size with h' | h'
    · exact h'
    · have := (hP4 0 (by omega)).1; simp [World.cell?, Array.getElem?_eq_none h'] at this
  rw [← hG] at hGl hbw5 hGlt ⊢
  have hsG : Keep (∀ W, Below G w4 W → ∀ k, k < n → W.cell? ⟨Gs, k, none⟩ = some (.int .i64 (P.getD k 0))) := ⟨fun W h k hk => (h.cell (p := ⟨Gs, k, none⟩) hGlt).trans (hP4 k hk).1⟩
  clear hG hb34 hs4 hP5 hP4 hl1
  have hGl0 := Keep.mk hGl
  go_loopw [8, 32] (fun x i wr => ∃ k : Nat, k ≤ n ∧ x = .int .i64 (bef N n P k) ∧ i = .int .i64 k ∧ Keep (RowAt wr G n (fun j => if j < k then GL.getD j 0 else 0)) ∧ Below G w4 wr) (fun _ i _ => n - (intOf i).toNat)
  case atStart =>
    refine ⟨0, by omega, ?_, rfl, ⟨by simpa using hGl0.out⟩, hbw5⟩
    unfold bef
    rw [if_pos rfl, hzl.out]
    try (first | rfl | rw [e0k.out])
  case round =>
    obtain ⟨k, hk, rfl, rfl, hrow, hbw⟩ := hrel
    by_cases hlt : k < n
    · have hck := hsG.out wr hbw k hlt
      have hgk := hgat.out k hlt
      have hpk := hPb.out k hlt
      have hnx : bef N n P (k + 1) = P.getD k 0 := by unfold bef; rw [if_neg (by omega), Nat.add_sub_cancel]
      have hge : GL.getD k 0 = P.getD k 0 - bef N n P k := by
        rw [hgk]; unfold bef
        by_cases h0 : k = 0
        · rw [if_pos h0, if_pos h0, h0]
        · rw [if_neg h0, if_neg h0]
      have hbb : -1000 ≤ bef N n P k ∧ bef N n P k < 1000 := by
        unfold bef
        by_cases h0 : k = 0
        · rw [if_pos h0, hzl.out]; omega
        · rw [if_neg h0]; have := hPb.out (k - 1) (by omega); omega
      obtain ⟨z, hz⟩ : ∃ z, P.getD k 0 = z := ⟨_, rfl⟩
      obtain ⟨y, hy⟩ : ∃ y, bef N n P k = y := ⟨_, rfl⟩
      rw [hz] at hck hpk hnx hge
      rw [hy] at hge hbb ⊢
      have e1 : IntKind.i64.wrap (z - y) = z - y := IntWalk.i64_in _ (by omega)
      have e2 : wrap64 (z - y) = z - y := by unfold wrap64; omega
      obtain ⟨d1, d2⟩ := hrow.out k hlt
      simp only [Nat.lt_irrefl, if_false] at d1
      have hnext : Keep (RowAt (wr.setCell ⟨G, k, none⟩ (.int .i64 (z - y))) G n (fun j => if j < k + 1 then GL.getD j 0 else 0)) :=
        ⟨row_set hrow.out hlt (by simp only [if_pos (show k < k + 1 by omega)]; exact hge) (fun j _ hj => by
          show (if j < k + 1 then _ else _) = if j < k then _ else _
          by_cases h : j < k
          · rw [if_pos h, if_pos (by omega)]
          · rw [if_neg h, if_neg (by omega)])⟩
      have hnxk := Keep.mk hnx
      have e2k := Keep.mk e2
      clear hnx hge hgk hz hy hrow hGl hbw5 e2
      go_wp2
      refine ⟨⟨k + 1, by omega, by rw [hnxk.out], by go_num, ?_, hbw.setCell (p := ⟨G, k, none⟩) (Nat.le_refl _) _⟩, by simp [intOf]; omega⟩
      first | exact hnext | (rw [e2k.out]; exact hnext)
    · have hkn : k = n := by omega
      subst hkn
      have hH : Holds (Value.int .i64) wr G 0 GL.toArray := holds_row hrow.out hGLl (fun j hj => by rw [if_pos hj])
      clear hrow
      go_wp2_with (first
        | (go_at_call 70; (with_reducible refine (q70 _ _ hH).mono ?_); rintro e w6 ⟨rfl, hH6, hg6⟩; clear q70)
        | (go_at_call 67; (with_reducible refine (q67b _ _ hH6).mono ?_); rintro e w7 ⟨rfl, hH7, hg7⟩; clear q67b))
      go_ret2
      refine ⟨_, R, rfl, hgok.out, hRl, ⟨_, _, rfl, fun j hj => ⟨G, rfl, (row_holds hH7 j hj).1⟩⟩, ?_⟩
      have hGs : G ≤ wr.heap.size := by
        rcases Nat.lt_or_ge G wr.heap.size with h' | h'
        · omega
        · have := (hH 0 (by simp; omega)).1; simp [World.cell?, Array.getElem?_eq_none h'] at this
      exact hbG.out _ ((hbw.grown hg6 hGs (fun j hj => by cases hj; exact Nat.le_refl _)).grown hg7 (Nat.le_trans hGs hg6.size) (fun j hj => by cases hj; exact Nat.le_refl _))
end Go.Proofs.Ytifbiamfandjnaa

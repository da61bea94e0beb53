import Derived.Test.YtioaaigbpfdjmaaDoorReadTwo
set_option linter.unusedSimpArgs false
set_option linter.unusedVariables false
namespace Go.Proofs.YtioaaigbpfdjmaaDoor
open Go Go.Proofs Go.RowKit
def allN (f : ByteArray) (ls : List ByteArray) : Bool := ls.all (okN (varsOf f))
/-- A function and cubes that can be looked at. -/
def validB (f : ByteArray) (ls : List ByteArray) : Bool := decide (varsOf f ≠ 0) && decide (ls.length ≤ 32) && allN f ls
def zero3 : Value := .agg #[.int .i64 0, .int .u32 0, .int .u32 0]
def RcPost (f : ByteArray) (ls : List ByteArray) (e : Ending) (w' : World) : Prop :=
  (validB f ls = false ∧ e = .returned (.tuple #[zero3, .slice none 0 0, .int .i64 2])) ∨
  (validB f ls = true ∧ covB f ls = false ∧ e = .returned (.tuple #[zero3, .slice none 0 0, .int .i64 10])) ∨
  (validB f ls = true ∧ covB f ls = true ∧ ∃ (O Z G : Nat) (az : List Nat), e = .returned (.tuple #[.agg #[.int .i64 (varsOf f : Nat), .int .u32 O, .int .u32 Z], .slice (some ⟨G, 0, none⟩) az.length az.length, .int .i64 0]) ∧
    az.length = ls.length ∧ SetsAt w' (some ⟨G, 0, none⟩) az ∧ (∀ a ∈ az, a < 4294967296) ∧ O < 4294967296 ∧ charB f 49 O f.size ∧ ∀ j, j < ls.length → ∀ p, (az.getD j 0).testBit p = (decide (p < f.size) && inC (ls.getD j ByteArray.empty) p))
set_option maxHeartbeats 1000000 in
set_option maxRecDepth 100000 in
theorem readCover_no1 {f : ByteArray} {v : Value} {ls : List ByteArray} {w : World} (h40 : f.size ≤ 40) (hv : TextsAt w v ls) (hn : varsOf f = 0 ∨ 32 < ls.length) :
    Calls Tryd.prog 72 #[.string f, v] w fun e w' => RcPost f ls e w' ∧ Below w.heap.size w w' := by
  have hV : validB f ls = false := by
    unfold validB
    rcases hn with h | h
    · simp [h]
    · rw [decide_eq_false (by omega : ¬ ls.length ≤ 32)]; simp
  obtain ⟨n, hnk⟩ : ∃ n, Keep (varsOf f = n) := ⟨_, ⟨rfl⟩⟩
  rw [hnk.out] at hn
  obtain ⟨A, cap, rfl, hc⟩ := hv
  by_cases h0 : n = 0
  · subst h0
    go_enter Tryd.func72, Tryd.ntmps72
    go_wp2_with (go_at_call 58; refine (table_any f h40 _).mono ?_; rintro e w1 ⟨⟨O, Z, hO, hZ, rfl, hOZ⟩, hb1⟩; rw [hnk.out]; obtain ⟨c0, c1, c2, y0, y1, y2, hz1, hbw⟩ := carry_new hb1; clear hb1)
    refine bodyPost_ret (v := .tuple #[zero3, .slice none 0 0, .int .i64 2]) (by rw [results_cell_tmp2 rfl]; unfold zero3; go_simp) rfl ?_
    exact ⟨.inl ⟨hV, rfl⟩, ((below_set (below_set (below_set hbw (by omega) _) (by omega) _) (by omega) _).alloc (by have := hbw.size; simp; omega) _)⟩
  · have h32 : (32 : Int) < (ls.length : Int) := by omega
    have hd : decide (n ≠ 0) = true := decide_eq_true h0
    clear h0
    go_enter Tryd.func72, Tryd.ntmps72
    go_wp2_with (go_at_call 58; refine (table_any f h40 _).mono ?_; rintro e w1 ⟨⟨O, Z, hO, hZ, rfl, hOZ⟩, hb1⟩; rw [hnk.out, hd]; obtain ⟨c0, c1, c2, y0, y1, y2, hz1, hbw⟩ := carry_new hb1; clear hb1)
    refine bodyPost_ret (v := .tuple #[zero3, .slice none 0 0, .int .i64 2]) (by rw [results_cell_tmp2 rfl]; unfold zero3; go_simp) rfl ?_
    exact ⟨.inl ⟨hV, rfl⟩, ((below_set (below_set (below_set hbw (by omega) _) (by omega) _) (by omega) _).alloc (by have := hbw.size; simp; omega) _)⟩
set_option maxHeartbeats 4000000 in
set_option maxRecDepth 100000 in
theorem readCover_yes {f : ByteArray} {v : Value} {ls : List ByteArray} {w : World} {n N : Nat} (h40 : f.size ≤ 40) (hv : TextsAt w v ls) (hn : Keep (varsOf f = n)) (h0 : n ≠ 0) (hn5 : n ≤ 5) (hN : Keep (N = 2 ^ n)) (hsz : Keep (f.size = N))
    (h32 : ls.length ≤ 32) (h40s : Keep (∀ c ∈ ls, c.size ≤ 40)) :
    Calls Tryd.prog 72 #[.string f, v] w fun e w' => RcPost f ls e w' ∧ Below w.heap.size w w' := by
  obtain ⟨i0, hi, hz0, hz1, hz2⟩ := info_parts info77
  have hVk : Keep (validB f ls = ls.all (okN n)) := ⟨by
    unfold validB allN
    rw [hn.out, decide_eq_true h0, decide_eq_true h32]; simp⟩
  have hd : decide (n ≠ 0) = true := decide_eq_true h0
  have hnv : Keep (varsOf f ≠ 0) := ⟨by rw [hn.out]; exact h0⟩
  have hl32 : ¬ (32 : Int) < (ls.length : Int) := by omega
  clear h0
  obtain ⟨A, cap, rfl, hc⟩ := hv
  have hck := Keep.mk hc
  clear hc
  go_enter Tryd.func72, Tryd.ntmps72
  go_wp2_with (first
    | (go_at_call 58; refine (table_any f h40 _).mono ?_; rintro e w1 ⟨⟨O, Z, hO, hZ, rfl, hOZ⟩, hb1⟩; rw [hn.out, hd]
       have hOb : Keep (charB f 49 O f.size) := ⟨(hOZ hnv.out).1⟩
       have hZb : Keep (charB f 48 Z f.size) := ⟨(hOZ hnv.out).2⟩
       obtain ⟨c0, c1, c2, y0, y1, y2, hz1', hbw⟩ := carry_new hb1
       clear hb1 hOZ)
    | (at_make; go_loud (
       refine wpList_make_full _ rfl _ _ 85 rfl w.heap.size 77 i0 (.int .u32 0) 1 ty85 hi hz0 hz1 .i64 .i64 (ls.length : Int) (ls.length : Int) ls.length rfl rfl rfl rfl (by rw [hz2]; omega) (by unfold maxLen; omega) (by simp; omega) ?_
       intro w5 hown5 hgrow5
       have hbw5 : Below w.heap.size w w5 := Below.grown (hbw.alloc hbw.size _) hgrow5 (by simp; omega) (by simp)
       have hTz : Keep (Three w5 w.heap.size (.int .i64 0) (.int .u32 0) (.int .u32 0)) := ⟨three_below ⟨c0, c1, c2, y0, y1, y2⟩ (((Below.refl _ _).alloc (Nat.le_refl _) _).trans (Below.grown (Below.refl _ _) hgrow5 (by simp) (by simp)))⟩
       have hTn : Keep (Three w5 w1.heap.size (.int .i64 n) (.int .u32 O) (.int .u32 Z)) := ⟨three_below ⟨by go_simp, by go_simp, by go_simp, by go_simp, by go_simp, by go_simp⟩ (Below.grown (Below.refl _ (w1.alloc (Obj.cells #[Value.int IntKind.i64 ↑n, Value.int IntKind.u32 ↑O, Value.int IntKind.u32 ↑Z] 79))) hgrow5 (by simp) (by simp))⟩
       generalize hGe : (w1.alloc (Obj.cells #[Value.int IntKind.i64 ↑n, Value.int IntKind.u32 ↑O, Value.int IntKind.u32 ↑Z] 79)).heap.size = G at hown5 ⊢
       have hG : Keep (URow w5 G ls.length (fun _ => 0)) := ⟨urow_start hown5⟩
       have hGx : Keep (G = w1.heap.size + 1) := ⟨by rw [← hGe]; simp⟩
       clear hown5 hgrow5 hGe c0 c1 c2 y0 y1 y2 hbw)))
  have hG0 : w.heap.size < G := by have := hGx.out; omega
  generalize hTe : w1.heap.size = T at *
  have hTG : T ≠ G := by have := hGx.out; omega
  have hwT : w.heap.size < T := hz1'
  clear hTe hz1' hGx
  go_loopw [10, 33] (fun u i wr => ∃ (k U : Nat) (az : List Nat), k ≤ ls.length ∧ i = .int .i64 k ∧ u = .int .u32 U ∧ U < 4294967296 ∧ az.length = k ∧ Keep (∀ a ∈ az, a < 4294967296) ∧ Keep (URow wr G ls.length (fun j => az.getD j 0)) ∧ Keep (Three wr w.heap.size (.int .i64 0) (.int .u32 0) (.int .u32 0)) ∧ Keep (Three wr T (.int .i64 n) (.int .u32 O) (.int .u32 Z)) ∧
      Keep (∀ p, U.testBit p = (decide (p < N) && inAny (ls.take k) p)) ∧ Keep (∀ j, j < k → ∀ p, (az.getD j 0).testBit p = (decide (p < N) && inC (ls.getD j ByteArray.empty) p)) ∧ Keep ((ls.take k).all (okN n) = true) ∧ Below w.heap.size w wr) (fun _ i _ => ls.length - (intOf i).toNat)
  case atStart => exact ⟨0, 0, [], by omega, rfl, rfl, by omega, rfl, ⟨fun a h => by simp at h⟩, ⟨by simpa using hG.out⟩, hTz, hTn, ⟨fun p => by simp [inAny]⟩, ⟨fun j h => by omega⟩, ⟨rfl⟩, hbw5⟩
  case round =>
    clear hG hTz hTn hbw5
    obtain ⟨k, U, az, hk, rfl, rfl, hU, hak, halt, hrow, hTz, hTn, hUb, hsets, hall, hbw⟩ := hrel
    have hTlt : T < wr.heap.size := three_lt hTn.out
    have hbz : w.heap.size ≤ wr.heap.size := hbw.size
    by_cases hlt : k < ls.length
    · obtain ⟨g, o, rfl, hg⟩ := hck.out k hlt
      have hgr := cell_below hg hbw
      have hx := h40s.out _ (getx hlt)
      have hin := getx hlt
      have htk : Keep (ls.take (k + 1) = ls.take k ++ [ls.getD k ByteArray.empty]) := ⟨takex hlt⟩
      obtain ⟨x, hxe⟩ : ∃ x, Keep (ls.getD k ByteArray.empty = x) := ⟨_, ⟨rfl⟩⟩
      rw [hxe.out] at hgr hx hin htk
      have hink := Keep.mk hin
      obtain ⟨b, hb⟩ : ∃ b, Keep (okN n x = b) := ⟨_, ⟨rfl⟩⟩
      obtain ⟨t0, t1, t2, t3, t4, t5⟩ := hTn.out
      have hak1 : Keep (az.length = k) := ⟨hak⟩
      clear hg hin hak
      cases b
      · have hVf : Keep (validB f ls = false) := ⟨by
          rw [hVk.out, List.all_eq_false]; exact ⟨x, hink.out, by rw [hb.out]; simp⟩⟩
        go_wp2_with (go_at_call 91; refine (read_two x n hn5 hx _).mono ?_; rintro e w6 ⟨⟨F, V, rfl, hfv⟩, hb6⟩; rw [hb.out]
                     obtain ⟨c0, c1, c2, y0, y1, y2⟩ := three_below hTz.out hb6
                     have hbw6 : Below w.heap.size w w6 := below_trans hbw hb6 hbz
                     have hz6 : w.heap.size < w6.heap.size := by have := hb6.size; omega
                     clear hb6 hfv t0 t1 t2 t3 t4 t5)
        refine bodyPost_ret (v := .tuple #[zero3, .slice none 0 0, .int .i64 2]) (by rw [results_cell_tmp2 rfl]; unfold zero3; go_simp) rfl ?_
        exact ⟨.inl ⟨hVf.out, rfl⟩, ((below_set (below_set (below_set hbw6 (by omega) _) (by omega) _) (by omega) _).alloc (by have := hbw6.size; simp; omega) _)⟩
      · have hokx : Keep (okCube x = true) := ⟨by have h := hb.out; unfold okN at h; rw [Bool.and_eq_true] at h; exact h.1⟩
        have hrow0 : Keep ((fun j => az.getD j 0) k = 0) := ⟨by simp [List.getD, hak1.out]⟩
        go_wp2_with (first
          | (go_at_call 91; refine (read_two x n hn5 hx _).mono ?_; rintro e w6 ⟨⟨F, V, rfl, hfv⟩, hb6⟩; rw [hb.out]
             obtain ⟨f1, f2, f3, f4⟩ := hfv hb.out
             have hTz6 : Keep (Three w6 w.heap.size (.int .i64 0) (.int .u32 0) (.int .u32 0)) := ⟨three_below hTz.out hb6⟩
             have hTn6 : Keep (Three w6 T (.int .i64 n) (.int .u32 O) (.int .u32 Z)) := ⟨three_below hTn.out hb6⟩
             have hrow6 : Keep (URow w6 G ls.length (fun j => az.getD j 0)) := ⟨urow_below hrow.out hb6⟩
             have hbw6 : Below w.heap.size w w6 := below_trans hbw hb6 hbz
             obtain ⟨t0, t1, t2, t3, t4, t5⟩ := hTn6.out
             have hz6 : T < w6.heap.size := three_lt hTn6.out
             have hf3 := Keep.mk f3
             have hf4 := Keep.mk f4
             clear hb6 hfv f3 f4 hTz hTn hrow)
          | (go_at_call 92; refine (points_any F V f1 n N hn5 hN.out _).mono ?_; rintro e w7 ⟨⟨a, ha, rfl, hbits⟩, hb7⟩
             have hb67 : Below w6.heap.size w6 w7 := below_trans ((Below.refl _ _).alloc (Nat.le_refl _) _) hb7 (by simp)
             have hTz7 : Keep (Three w7 w.heap.size (.int .i64 0) (.int .u32 0) (.int .u32 0)) := ⟨three_below hTz6.out hb67⟩
             have hTn7 : Keep (Three w7 T (.int .i64 n) (.int .u32 O) (.int .u32 Z)) := ⟨three_below hTn6.out hb67⟩
             have hrow7 : Keep (URow w7 G ls.length (fun j => az.getD j 0)) := ⟨urow_below hrow6.out hb67⟩
             have hbw7 : Below w.heap.size w w7 := below_trans hbw6 hb67 (by omega)
             have hb1 : Keep (∀ p, a.testBit p = (decide (p < N) && inC x p)) := ⟨fun p => by rw [hbits, dig_fit hokx.out hf3.out hf4.out]⟩
             have r2 := (hrow7.out k hlt).2
             have r1 : w7.cell? ⟨G, k, none⟩ = some (.int .u32 0) := by
               have h := (hrow7.out k hlt).1
               rw [show ((fun j => az.getD j 0) k : Nat) = 0 from hrow0.out] at h
               exact h
             have hor := or_u32 U a hU ha
             have hUa : U ||| a < 4294967296 := Nat.or_lt_two_pow (n := 32) hU ha
             clear hb7 hb67 hbits hTz6 hTn6 hrow6 hbw6 t0 t1 t2 t3 t4 t5))
        refine ⟨⟨k + 1, U ||| a, az ++ [a], by omega, by go_num, rfl, hUa, by simp [hak1.out], ⟨fun b h => ?_⟩, ⟨urow_set hrow7.out hlt (by simp [List.getD, hak1.out]) (fun j hj hne => ?_)⟩, ⟨three_set hTz7.out (by omega) _⟩, ⟨three_set hTn7.out hTG _⟩, ⟨fun p => ?_⟩, ⟨fun j hj p => ?_⟩, ⟨?_⟩, below_set hbw7 (by omega) _⟩, by simp [intOf]; omega⟩
        · rw [List.mem_append, List.mem_singleton] at h
          rcases h with h | rfl
          · exact halt.out b h
          · exact ha
        · have hl := hak1.out
          by_cases hjk : j < k
          · rw [List.getD_eq_getElem?_getD, List.getElem?_append_left (by omega), ← List.getD_eq_getElem?_getD]
          · rw [List.getD_eq_getElem?_getD, List.getElem?_eq_none (by simp; omega), List.getD_eq_getElem?_getD, List.getElem?_eq_none (by omega)]
        · rw [Nat.testBit_or, hUb.out, hb1.out, htk.out]
          simp only [inAny, List.any_append, List.any_cons, List.any_nil, Bool.or_false]
          cases decide (p < N) <;> simp
        · have hl := hak1.out
          by_cases hjk : j < k
          · rw [List.getD_eq_getElem?_getD, List.getElem?_append_left (by omega), ← List.getD_eq_getElem?_getD]
            exact hsets.out j hjk p
          · have : j = k := by omega
            subst this
            rw [hxe.out, ← hb1.out]
            simp [List.getD, hl]
        · rw [htk.out, List.all_append, hall.out]
          simp [hb.out]
    · have : k = ls.length := by omega
      subst this
      have hV : Keep (validB f ls = true) := ⟨by
        have h := hall.out
        rw [List.take_length] at h
        rw [hVk.out]; exact h⟩
      have haz := hak
      have hUb' : ∀ p, U.testBit p = (decide (p < f.size) && inAny ls p) := fun p => by
        have h := hUb.out p
        rw [List.take_length, ← hsz.out] at h
        exact h
      obtain ⟨c, hc1, hc2, hc3⟩ := andNot_u32 O U hO hU
      have h1 := bits_and_u32_nat U Z hU hZ
      have hcov : Keep (covB f ls = (((U &&& Z) == 0) && (c == 0))) := ⟨cov_bits hUb' hOb.out hZb.out hc3⟩
      have n1 : (((U &&& Z : Nat) : Int) != 0) = !((U &&& Z) == 0) := by
        rw [Bool.eq_iff_iff]; simp
      have n2 : ((c : Int) != 0) = !(c == 0) := by
        rw [Bool.eq_iff_iff]; simp
      obtain ⟨x, hx⟩ : ∃ x, Keep (((U &&& Z) == 0) = x) := ⟨_, ⟨rfl⟩⟩
      obtain ⟨y, hy⟩ : ∃ y, Keep ((c == 0) = y) := ⟨_, ⟨rfl⟩⟩
      rw [hx.out, hy.out] at hcov
      rw [hx.out] at n1
      rw [hy.out] at n2
      generalize (U &&& Z) = M at h1 n1
      obtain ⟨t0, t1, t2, t3, t4, t5⟩ := hTn.out
      obtain ⟨c0, c1, c2, y0, y1, y2⟩ := hTz.out
      have hsets' := hsets
      have hak1 : Keep (az.length = ls.length) := ⟨hak⟩
      clear hc3 hUb' hx hy hUb hall hVk hak haz
      cases x
      · go_wp2
        refine bodyPost_ret (v := .tuple #[zero3, .slice none 0 0, .int .i64 10]) (by rw [results_cell_tmp2 rfl]; unfold zero3; go_simp) rfl ?_
        exact ⟨.inr (.inl ⟨hV.out, hcov.out, rfl⟩), below_set (below_set (below_set hbw (by omega) _) (by omega) _) (by omega) _⟩
      · cases y
        · go_wp2
          refine bodyPost_ret (v := .tuple #[zero3, .slice none 0 0, .int .i64 10]) (by rw [results_cell_tmp2 rfl]; unfold zero3; go_simp) rfl ?_
          exact ⟨.inr (.inl ⟨hV.out, hcov.out, rfl⟩), below_set (below_set (below_set hbw (by omega) _) (by omega) _) (by omega) _⟩
        · go_wp2
          refine bodyPost_ret (v := .tuple #[.agg #[.int .i64 n, .int .u32 O, .int .u32 Z], .slice (some ⟨G, 0, none⟩) ls.length ls.length, .int .i64 0]) (by rw [results_cell_tmp2 rfl]; go_simp) rfl ?_
          refine ⟨.inr (.inr ⟨hV.out, hcov.out, O, Z, G, az, by rw [hn.out, hak1.out], hak1.out, fun j hj => ⟨G, rfl, ?_⟩, halt.out, hO, hOb.out, fun j hj p => by rw [hsets.out j hj p, hsz.out]⟩), below_set (below_set (below_set hbw (by omega) _) (by omega) _) (by omega) _⟩
          have hGne : G ≠ w.heap.size := Nat.ne_of_gt hG0
          exact (urow_other (urow_other (urow_other hrow.out hGne _) hGne _) hGne _ j (by rw [← hak1.out]; exact hj)).1
end Go.Proofs.YtioaaigbpfdjmaaDoor

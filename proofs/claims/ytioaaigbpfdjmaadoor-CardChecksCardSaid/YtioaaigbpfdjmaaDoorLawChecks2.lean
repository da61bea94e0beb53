import Derived.Test.YtioaaigbpfdjmaaDoorLawChecks
import Derived.Deep.AppendLies
set_option linter.unusedSimpArgs false
set_option linter.unusedVariables false
namespace Go.Proofs.YtioaaigbpfdjmaaDoor
open Go Go.Proofs Go.RowKit Go.CRun
theorem ok_int (c : ByteArray) (n : Nat) : (okCube c && decide ((c.size : Int) = (n : Int))) = okN n c := by
  unfold okN
  have : decide ((c.size : Int) = (n : Int)) = decide (c.size = n) := decide_eq_decide.2 (by omega)
  rw [this]
theorem all_take {n k : Nat} {L : List ByteArray} (h : k < L.length) : (L.take (k + 1)).all (okN n) = ((L.take k).all (okN n) && okN n (L.getD k ByteArray.empty)) := by
  rw [takex h, List.all_append]; simp
set_option maxHeartbeats 2000000 in
set_option maxRecDepth 100000 in
theorem checks_no {s q : ByteArray} {v : Value} {ls L : List ByteArray} {w : World} {n : Nat} (hsz : s.size ≤ 9223372036854775807) (hv : TextsAt w v ls) (hls : Keep (∀ s ∈ ls, s.size ≤ 9223372036854775807)) (hT : TabW w)
    (hq : Keep (shortOf s = q)) (h40 : q.size ≤ 40) (hL : Keep (fewOf ls = L)) (hlen : L.length ≤ 32) (hLs : Keep (∀ c ∈ L, c.size ≤ 8)) (hn : Keep (varsOf q = n)) (h0 : n ≠ 0) (hall : L.all (okN n) = false) :
    Calls Tryd.prog 5 #[.string s, v] w fun e w' => e = .returned (.bool true) ∧ Below w.heap.size w w' := by
  have hTk := Keep.mk hT
  have hvk := Keep.mk hv
  have hLs8 := hLs
  have hLs : Keep (∀ c ∈ L, c.size ≤ 40) := ⟨fun c hc => Nat.le_trans (hLs8.out c hc) (by omega)⟩
  have hch : Keep (chkN q L = 2) := ⟨by
    have : validB q L = false := by
      unfold validB allN
      rw [hn.out, hall]; simp
    unfold chkN; rw [this]; rfl⟩
  have hir : Keep (false = (decide (chkN q L = 0) && irrB q L)) := ⟨by rw [hch.out]; rfl⟩
  have hd1 : 0 < n := by omega
  have hd2 : (L.length : Int) ≤ 32 := by omega
  clear hT hv h0
  go_enter Tryd.func5, Tryd.ntmps5
  go_wp2_with (first
    | (go_at_call 15; refine (short_any s hsz _).mono ?_; rintro e w ⟨rfl, rfl⟩; rw [hq.out])
    | (go_at_call 32; refine (few_any hvk.out hls).mono ?_; rintro e w2 ⟨l, rfl, hown, hb2⟩
       rw [hL.out] at hown
       obtain ⟨A, cap, rfl, hcl, hcm⟩ := own_shape hown
       have ht2 : Keep (TextsAt w2 (.slice A L.length cap) L) := ⟨own_texts hown⟩
       have hB2 : Keep (Below w.heap.size w w2) := ⟨hb2⟩
       clear hown hb2)
    | (go_at_call 31; refine (check_any h40 ht2.out hLs).mono ?_; rintro e w3 ⟨rfl, hb3⟩; rw [hch.out]
       have ht3 : Keep (TextsAt w3 (.slice A L.length cap) L) := ⟨texts_below ht2.out hb3⟩
       have hB3 : Keep (Below w.heap.size w w3) := ⟨below_trans hB2.out hb3 hB2.out.size⟩
       clear hb3)
    | (go_at_call 33; refine (irr_any h40 ht3.out hLs hir).mono ?_; rintro e w4 ⟨rfl, hb4⟩; rw [hch.out]
       have ht4 : Keep (TextsAt w4 (.slice A L.length cap) L) := ⟨texts_below ht3.out hb4⟩
       have hB4 : Keep (Below w.heap.size w w4) := ⟨below_trans hB3.out hb4 hB3.out.size⟩
       clear hb4)
    | (go_at_call 19; refine (vars_any q h40 _).mono ?_; rintro e w5 ⟨rfl, rfl⟩; rw [hn.out]))
  clear hd1 hd2
  have hallk := Keep.mk hall
  clear hall
  go_loop [11, 12] (fun b i => ∃ (k : Nat) (x : Bool), k ≤ L.length ∧ i = .int .i64 k ∧ b = .bool x ∧ Keep ((L.take k).all (okN n) = x)) (fun _ i => L.length - (intOf i).toNat)
  case atStart => exact ⟨0, true, by omega, rfl, rfl, ⟨rfl⟩⟩
  case round =>
    obtain ⟨k, x, hk, rfl, rfl, hx⟩ := hrel
    by_cases hlt : k < L.length
    · have hp := all_take (n := n) hlt
      rw [hx.out] at hp
      have hpk := Keep.mk hp
      clear hp
      cases x
      · go_wp2
        exact ⟨⟨k + 1, false, by omega, by go_num, rfl, ⟨by rw [hpk.out]; rfl⟩⟩, by simp [intOf]; omega⟩
      · obtain ⟨A1, cap1, e1, hc1⟩ := ht4.out
        injection e1 with e1 _ e2
        subst e1
        subst e2
        obtain ⟨g, o, rfl, hg⟩ := hc1 k hlt
        have hx8 := hLs8.out _ (getx hlt)
        generalize L.getD k ByteArray.empty = c at hg hx8 hpk
        clear hc1
        go_wp2_with (go_at_call 27; refine (refCube_any c n _ (by omega)).mono ?_; rintro e w6 ⟨rfl, rfl⟩; rw [ok_int])
        exact ⟨⟨k + 1, _, by omega, by go_num, rfl, ⟨by rw [hpk.out]; rfl⟩⟩, by simp [intOf]; omega⟩
    · have : k = L.length := by omega
      subst this
      have hxF : x = false := by
        have := hx.out
        rw [List.take_length, hallk.out] at this
        exact this.symm
      subst hxF
      go_wp2_with (go_at_call 20; refine (awake_w (tab_below hTk.out hB4.out)).mono ?_; rintro e w7 ⟨rfl, hb7⟩; have hB7 := below_trans hB4.out hb7 hB4.out.size; clear hb7)
      go_ret
      exact ⟨rfl, hB7⟩
set_option maxHeartbeats 2000000 in
set_option maxRecDepth 100000 in
theorem checks_uncov {s q : ByteArray} {v : Value} {ls L : List ByteArray} {w : World} {n : Nat} (hsz : s.size ≤ 9223372036854775807) (hv : TextsAt w v ls) (hls : Keep (∀ s ∈ ls, s.size ≤ 9223372036854775807)) (hT : TabW w)
    (hq : Keep (shortOf s = q)) (h40 : q.size ≤ 40) (hL : Keep (fewOf ls = L)) (hlen : L.length ≤ 32) (hLs : Keep (∀ c ∈ L, c.size ≤ 8)) (hn : Keep (varsOf q = n)) (h0 : n ≠ 0) (hall : ∀ c ∈ L, okN n c = true) (hcv : covB q L = false) :
    Calls Tryd.prog 5 #[.string s, v] w fun e w' => e = .returned (.bool true) ∧ Below w.heap.size w w' := by
  have hTk := Keep.mk hT
  have hvk := Keep.mk hv
  have hLs8 := hLs
  have hLs : Keep (∀ c ∈ L, c.size ≤ 40) := ⟨fun c hc => Nat.le_trans (hLs8.out c hc) (by omega)⟩
  have hch : Keep (chkN q L = 10) := ⟨by
    have : validB q L = true := by
      unfold validB allN
      rw [hn.out, List.all_eq_true.2 hall, decide_eq_true h0, decide_eq_true hlen]; rfl
    unfold chkN; rw [this, hcv]; rfl⟩
  have hir : Keep (false = (decide (chkN q L = 0) && irrB q L)) := ⟨by rw [hch.out]; rfl⟩
  have hallk := Keep.mk hall
  have hcvk := Keep.mk hcv
  have hokk : Keep (∀ c ∈ L, c.size ≤ 40 ∧ okCube c = true) := ⟨fun c hc => ⟨hLs.out c hc, by have := hall c hc; unfold okN at this; rw [Bool.and_eq_true] at this; exact this.1⟩⟩
  clear hall hcv
  have hd1 : 0 < n := by omega
  have hd2 : (L.length : Int) ≤ 32 := by omega
  clear hT hv h0
  go_enter Tryd.func5, Tryd.ntmps5
  go_wp2_with (first
    | (go_at_call 15; refine (short_any s hsz _).mono ?_; rintro e w ⟨rfl, rfl⟩; rw [hq.out])
    | (go_at_call 32; refine (few_any hvk.out hls).mono ?_; rintro e w2 ⟨l, rfl, hown, hb2⟩
       rw [hL.out] at hown
       obtain ⟨A, cap, rfl, hcl, hcm⟩ := own_shape hown
       have ht2 : Keep (TextsAt w2 (.slice A L.length cap) L) := ⟨own_texts hown⟩
       have hB2 : Keep (Below w.heap.size w w2) := ⟨hb2⟩
       clear hown hb2)
    | (go_at_call 31; refine (check_any h40 ht2.out hLs).mono ?_; rintro e w3 ⟨rfl, hb3⟩; rw [hch.out]
       have ht3 : Keep (TextsAt w3 (.slice A L.length cap) L) := ⟨texts_below ht2.out hb3⟩
       have hB3 : Keep (Below w.heap.size w w3) := ⟨below_trans hB2.out hb3 hB2.out.size⟩
       clear hb3)
    | (go_at_call 33; refine (irr_any h40 ht3.out hLs hir).mono ?_; rintro e w4 ⟨rfl, hb4⟩; rw [hch.out]
       have ht4 : Keep (TextsAt w4 (.slice A L.length cap) L) := ⟨texts_below ht3.out hb4⟩
       have hB4 : Keep (Below w.heap.size w w4) := ⟨below_trans hB3.out hb4 hB3.out.size⟩
       clear hb4)
    | (go_at_call 19; refine (vars_any q h40 _).mono ?_; rintro e w5 ⟨rfl, rfl⟩; rw [hn.out]))
  clear hd1 hd2
  go_loop [11, 12] (fun b i => ∃ k : Nat, k ≤ L.length ∧ i = .int .i64 k ∧ b = .bool true) (fun _ i => L.length - (intOf i).toNat)
  case atStart => exact ⟨0, by omega, rfl, rfl⟩
  case round =>
    obtain ⟨k, hk, rfl, rfl⟩ := hrel
    by_cases hlt : k < L.length
    · obtain ⟨A1, cap1, e1, hc1⟩ := ht4.out
      injection e1 with e1 _ e2
      subst e1
      subst e2
      obtain ⟨g, o, rfl, hg⟩ := hc1 k hlt
      have hx8 := hLs8.out _ (getx hlt)
      have hxo := hallk.out _ (getx hlt)
      generalize L.getD k ByteArray.empty = c at hg hx8 hxo
      have hxk := Keep.mk hxo
      clear hc1 hxo
      go_wp2_with (go_at_call 27; refine (refCube_any c n _ (by omega)).mono ?_; rintro e w6 ⟨rfl, rfl⟩; rw [ok_int, hxk.out])
      exact ⟨⟨k + 1, by omega, by go_num, rfl⟩, by simp [intOf]; omega⟩
    · have : k = L.length := by omega
      subst this
      go_wp2_with (first
        | (go_at_call 29; refine (refCovers_any h40 (by omega) ht4.out hokk).mono ?_; rintro e w6 ⟨rfl, hb6⟩; rw [hcvk.out]
           have hB6 : Keep (Below w.heap.size w w6) := ⟨below_trans hB4.out hb6 hB4.out.size⟩
           clear hb6)
        | (go_at_call 20; refine (awake_w (tab_below hTk.out hB6.out)).mono ?_; rintro e w7 ⟨rfl, hb7⟩; have hB7 := below_trans hB6.out hb7 hB6.out.size; clear hb7))
      go_ret
      exact ⟨rfl, hB7⟩
end Go.Proofs.YtioaaigbpfdjmaaDoor

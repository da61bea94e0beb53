import Derived.Test.YtioaaigbpfdjmaaDoorIrr
import Derived.Test.YtioaaigbpfdjmaaDoorLawPoints
import Derived.Deep.RegionHeld3
set_option linter.unusedSimpArgs false
set_option linter.unusedVariables false
namespace Go.Proofs.YtioaaigbpfdjmaaDoor
open Go Go.Proofs Go.RowKit Go.CRun
theorem own_shape {w : World} {B e n : Nat} {v : Value} {us : List Value} (h : w.ownsRow B e 1 v n us) : ∃ A cap, v = .slice A n cap ∧ n ≤ cap ∧ cap ≤ maxLen := by
  rcases h.2 with ⟨rfl, h0⟩ | ⟨g, cap, cur, rfl, _, _, hn, hcap, _⟩
  · exact ⟨none, 0, by rw [h0], by omega, by unfold maxLen; omega⟩
  · exact ⟨_, cap, rfl, hn, hcap⟩
theorem few_size {ls : List ByteArray} : ∀ c ∈ fewOf ls, c.size ≤ 8 := by
  intro c hc
  unfold fewOf at hc
  rw [List.mem_map] at hc
  obtain ⟨d, _, rfl⟩ := hc
  exact cut8_size d
theorem few_le (ls : List ByteArray) : (fewOf ls).length ≤ 34 := by rw [few_len]; omega
set_option maxHeartbeats 2000000 in
set_option maxRecDepth 100000 in
theorem checks_bad {s q : ByteArray} {v : Value} {ls L : List ByteArray} {w : World} {n : Nat} (hsz : s.size ≤ 9223372036854775807) (hv : TextsAt w v ls) (hls : Keep (∀ s ∈ ls, s.size ≤ 9223372036854775807)) (hT : TabW w)
    (hq : Keep (shortOf s = q)) (h40 : q.size ≤ 40) (hL : Keep (fewOf ls = L)) (hlen : L.length ≤ 34) (hLs : Keep (∀ c ∈ L, c.size ≤ 40)) (hn : Keep (varsOf q = n)) (hbad : n = 0 ∨ 32 < L.length) :
    Calls Tryd.prog 5 #[.string s, v] w fun e w' => e = .returned (.bool true) ∧ Below w.heap.size w w' := by
  have hTk := Keep.mk hT
  have hvk := Keep.mk hv
  have hch : Keep (chkN q L = 2) := ⟨by
    have : validB q L = false := by
      unfold validB
      rw [hn.out]
      rcases hbad with h | h
      · simp [h]
      · rw [decide_eq_false (by omega : ¬ L.length ≤ 32)]; simp
    unfold chkN; rw [this]; rfl⟩
  have hir : Keep (false = (decide (chkN q L = 0) && irrB q L)) := ⟨by rw [hch.out]; rfl⟩
  clear hT hv
  by_cases h0 : n = 0
  · have hd1 : decide ((0 : Int) < (n : Int)) = false := by rw [h0]; rfl
    go_enter Tryd.func5, Tryd.ntmps5
    go_wp2_with (first
      | (go_at_call 15; refine (short_any s hsz _).mono ?_; rintro e w ⟨rfl, rfl⟩; rw [hq.out])
      | (go_at_call 32; refine (few_any hvk.out hls).mono ?_; rintro e w2 ⟨l, rfl, hown, hb2⟩
         rw [hL.out] at hown
         obtain ⟨A, cap, rfl, hcl, hcm⟩ := own_shape hown
         have ht2 : Keep (TextsAt w2 (.slice A L.length cap) L) := ⟨own_texts hown⟩
         have hB2 : Keep (Below w.heap.size w w2) := ⟨hb2⟩
         clear hown hb2)
      | (go_at_call 31; refine (check_any h40 ht2.out hLs).mono ?_; rintro e w3 ⟨rfl, hb3⟩; rw [hch.out]
         have ht3 : Keep (TextsAt w3 (.slice A L.length cap) L) := ⟨texts_below ht2.out hb3⟩
         have hB3 : Keep (Below w.heap.size w w3) := ⟨below_trans hB2.out hb3 hB2.out.size⟩
         clear hb3)
      | (go_at_call 33; refine (irr_any h40 ht3.out hLs hir).mono ?_; rintro e w4 ⟨rfl, hb4⟩; rw [hch.out]
         have ht4 : Keep (TextsAt w4 (.slice A L.length cap) L) := ⟨texts_below ht3.out hb4⟩
         have hB4 : Keep (Below w.heap.size w w4) := ⟨below_trans hB3.out hb4 hB3.out.size⟩
         clear hb4)
      | (go_at_call 19; refine (vars_any q h40 _).mono ?_; rintro e w5 ⟨rfl, rfl⟩; rw [hn.out]))
    clear hd1
    go_loop [11, 12] (fun b i => ∃ k : Nat, k ≤ L.length ∧ i = .int .i64 k ∧ b = .bool false) (fun _ i => L.length - (intOf i).toNat)
    case atStart => exact ⟨0, by omega, rfl, rfl⟩
    case round =>
      obtain ⟨k, hk, rfl, rfl⟩ := hrel
      by_cases hlt : k < L.length
      · go_wp2
        exact ⟨⟨k + 1, by omega, by go_num, rfl⟩, by simp [intOf]; omega⟩
      · have : k = L.length := by omega
        subst this
        go_wp2_with (go_at_call 20; refine (awake_w (tab_below hTk.out hB4.out)).mono ?_; rintro e w7 ⟨rfl, hb7⟩; have hB7 := below_trans hB4.out hb7 hB4.out.size; clear hb7)
        go_ret
        exact ⟨rfl, hB7⟩
  · have hd1 : decide ((0 : Int) < (n : Int)) = true := by rw [decide_eq_true_iff]; omega
    have hd2 : decide ((L.length : Int) ≤ 32) = false := by rw [decide_eq_false_iff_not]; omega
    go_enter Tryd.func5, Tryd.ntmps5
    go_wp2_with (first
      | (go_at_call 15; refine (short_any s hsz _).mono ?_; rintro e w ⟨rfl, rfl⟩; rw [hq.out])
      | (go_at_call 32; refine (few_any hvk.out hls).mono ?_; rintro e w2 ⟨l, rfl, hown, hb2⟩
         rw [hL.out] at hown
         obtain ⟨A, cap, rfl, hcl, hcm⟩ := own_shape hown
         have ht2 : Keep (TextsAt w2 (.slice A L.length cap) L) := ⟨own_texts hown⟩
         have hB2 : Keep (Below w.heap.size w w2) := ⟨hb2⟩
         clear hown hb2)
      | (go_at_call 31; refine (check_any h40 ht2.out hLs).mono ?_; rintro e w3 ⟨rfl, hb3⟩; rw [hch.out]
         have ht3 : Keep (TextsAt w3 (.slice A L.length cap) L) := ⟨texts_below ht2.out hb3⟩
         have hB3 : Keep (Below w.heap.size w w3) := ⟨below_trans hB2.out hb3 hB2.out.size⟩
         clear hb3)
      | (go_at_call 33; refine (irr_any h40 ht3.out hLs hir).mono ?_; rintro e w4 ⟨rfl, hb4⟩; rw [hch.out]
         have ht4 : Keep (TextsAt w4 (.slice A L.length cap) L) := ⟨texts_below ht3.out hb4⟩
         have hB4 : Keep (Below w.heap.size w w4) := ⟨below_trans hB3.out hb4 hB3.out.size⟩
         clear hb4)
      | (go_at_call 19; refine (vars_any q h40 _).mono ?_; rintro e w5 ⟨rfl, rfl⟩; rw [hn.out]))
    clear hd1 hd2
    go_loop [11, 12] (fun b i => ∃ k : Nat, k ≤ L.length ∧ i = .int .i64 k ∧ b = .bool false) (fun _ i => L.length - (intOf i).toNat)
    case atStart => exact ⟨0, by omega, rfl, rfl⟩
    case round =>
      obtain ⟨k, hk, rfl, rfl⟩ := hrel
      by_cases hlt : k < L.length
      · go_wp2
        exact ⟨⟨k + 1, by omega, by go_num, rfl⟩, by simp [intOf]; omega⟩
      · have : k = L.length := by omega
        subst this
        go_wp2_with (go_at_call 20; refine (awake_w (tab_below hTk.out hB4.out)).mono ?_; rintro e w7 ⟨rfl, hb7⟩; have hB7 := below_trans hB4.out hb7 hB4.out.size; clear hb7)
        go_ret
        exact ⟨rfl, hB7⟩
end Go.Proofs.YtioaaigbpfdjmaaDoor

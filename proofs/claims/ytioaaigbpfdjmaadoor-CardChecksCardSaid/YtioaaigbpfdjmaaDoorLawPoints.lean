import Derived.Test.YtioaaigbpfdjmaaDoorCardPointsNo
import Derived.Test.YtioaaigbpfdjmaaDoorAwake
import Derived.Test.YtioaaigbpfdjmaaDoorInts
set_option linter.unusedSimpArgs false
set_option linter.unusedVariables false
namespace Go.Proofs.YtioaaigbpfdjmaaDoor
open Go Go.Proofs Go.RowKit Go.CRun
theorem tabw_of {w : World} (ht : Lib.TabIs Tryd.prog w "math/bits.deBruijn32tab" .u8 zs) : TabW w := fun i hi => by
  have hg : Tryd.prog.globalNamed "math/bits.deBruijn32tab" = some 1 := by kernel_rfl
  have h := ht.cell hg i hi
  rw [h]
  have e : zs.getD i 0 = ((Lib.deBruijn32tab.getD i 0 : Nat) : Int) := by
    have : ∀ i, i < 32 → zs.getD i 0 = ((Lib.deBruijn32tab.getD i 0 : Nat) : Int) := by decide
    exact this i hi
  rw [e]
theorem glob_w {w : World} (ht : TabW w) : GlobOK G 2 w := by
  intro g vs hm
  simp only [G, List.mem_cons, List.not_mem_nil, or_false, Prod.mk.injEq] at hm
  obtain ⟨rfl, rfl⟩ := hm
  refine ⟨by decide, by decide, fun j v hj => ?_⟩
  have hlt : j < 32 := (List.getElem?_eq_some_iff.1 hj).1
  rw [ht j hlt, ← hj]
  have e : tabG = Lib.deBruijn32tab.map fun z => Value.int .u8 (z : Nat) := rfl
  have hj' : j < Lib.deBruijn32tab.length := hlt
  rw [e, List.getElem?_map]
  simp [List.getD, hj']
theorem awake_w {w : World} (ht : TabW w) : Calls Tryd.prog 20 #[] w fun e w' => e = .returned (.bool true) ∧ Below w.heap.size w w' := by
  have hN : 2 ≤ w.heap.size := by
    have h := ht 0 (by decide)
    rcases Nat.lt_or_ge 1 w.heap.size with h' | h'
    · exact h'
    · simp [World.cell?, Array.getElem?_eq_none h'] at h
  exact true_of_sum (sum_of_run prog_ok (x1_ok 2) r3 rfl) (glob_w ht) hN
set_option maxRecDepth 100000 in
theorem law_yes (s : ByteArray) (hsz : s.size ≤ 9223372036854775807) (h1 : 1 ≤ (shortOf s).size) (h5 : (shortOf s).size ≤ 5) (hc : okCube (shortOf s) = true) (w : World) (ht : Lib.TabIs Tryd.prog w "math/bits.deBruijn32tab" .u8 zs) :
    Calls Tryd.prog 10 #[.string s] w fun e w' => e = .returned (.bool true) ∧ Below w.heap.size w w' := by
  have hT := tabw_of ht
  have hlen : ∀ N, (ptsTo (shortOf s) N).length ≤ N := ptsTo_len _
  obtain ⟨N, hN⟩ : ∃ N, N = 2 ^ (shortOf s).size := ⟨_, rfl⟩
  have hpow : N ≤ 32 := hN ▸ Nat.pow_le_pow_right (n := 2) (by decide) h5
  have hcube : ∀ w, Calls Tryd.prog 27 #[.string (shortOf s), .int .i64 ((shortOf s).size : Nat)] w fun e w' => e = .returned (.bool true) ∧ w' = w := fun w => by
    have := refCube_any (shortOf s) ((shortOf s).size : Nat) w (by omega)
    simpa [hc] using this
  generalize hq : shortOf s = q at *
  go_enter Tryd.func10, Tryd.ntmps10
  go_wp2_with (first
    | (go_at_call 15; refine (short_any s hsz _).mono ?_; rintro e w5 ⟨rfl, rfl⟩; rw [hq])
    | (go_at_call 52; go_loud (refine (cardPoints_yes q h1 h5 N hN hc _ hT).mono ?_; rintro e w1 ⟨v, rfl, hown, hb1⟩))
    | (go_at_call 27; go_loud (refine (hcube _).mono ?_; rintro e w6 ⟨rfl, rfl⟩))
    | (go_at_call 53; go_loud (refine (refPoints_any q N hN _ h5 hc).mono ?_; rintro e w2 ⟨v2, rfl, hown2, hb2⟩))
    | (go_at_call 24; go_loud (refine (ints_same (own_below hown hb2) hown2 (Nat.le_trans (hlen N) (by omega))).mono ?_; rintro e w3 ⟨rfl, hb3⟩))
    | (go_at_call 20; go_loud (refine (awake_w (w := w3) (tab_below hT (below_trans (below_trans hb1 hb2 hb1.size) hb3 (Nat.le_trans hb1.size hb2.size)))).mono ?_; rintro e w4 ⟨rfl, hb4⟩)))
  go_ret
  exact ⟨rfl, below_trans (below_trans (below_trans hb1 hb2 hb1.size) hb3 (Nat.le_trans hb1.size hb2.size)) hb4 (Nat.le_trans hb1.size (Nat.le_trans hb2.size hb3.size))⟩
set_option maxRecDepth 100000 in
theorem law_no (s : ByteArray) (hsz : s.size ≤ 9223372036854775807) (hc : (shortOf s).size < 1 ∨ 5 < (shortOf s).size ∨ okCube (shortOf s) = false) (w : World) (ht : Lib.TabIs Tryd.prog w "math/bits.deBruijn32tab" .u8 zs) :
    Calls Tryd.prog 10 #[.string s] w fun e w' => e = .returned (.bool true) ∧ Below w.heap.size w w' := by
  have hT := tabw_of ht
  have h40 := shortOf_size s
  have hno := fun w => cardPoints_no (shortOf s) h40 hc w
  generalize hq : shortOf s = q at *
  by_cases h1 : q.size < 1
  · go_enter Tryd.func10, Tryd.ntmps10
    go_wp2_with (first
      | (go_at_call 15; refine (short_any s hsz _).mono ?_; rintro e w5 ⟨rfl, rfl⟩; rw [hq])
      | (go_at_call 52; go_loud (refine (hno _).mono ?_; rintro e w1 ⟨rfl, hb1⟩))
      | (go_at_call 20; go_loud (refine (awake_w (w := w1) (tab_below hT hb1)).mono ?_; rintro e w4 ⟨rfl, hb4⟩)))
    go_ret
    exact ⟨rfl, below_trans hb1 hb4 hb1.size⟩
  · by_cases h5 : 5 < q.size
    · go_enter Tryd.func10, Tryd.ntmps10
      go_wp2_with (first
        | (go_at_call 15; refine (short_any s hsz _).mono ?_; rintro e w5 ⟨rfl, rfl⟩; rw [hq])
        | (go_at_call 52; go_loud (refine (hno _).mono ?_; rintro e w1 ⟨rfl, hb1⟩))
        | (go_at_call 20; go_loud (refine (awake_w (w := w1) (tab_below hT hb1)).mono ?_; rintro e w4 ⟨rfl, hb4⟩)))
      go_ret
      exact ⟨rfl, below_trans hb1 hb4 hb1.size⟩
    · have hf : okCube q = false := by
        rcases hc with h | h | h
        · exact absurd h h1
        · exact absurd h h5
        · exact h
      have hcube : ∀ w, Calls Tryd.prog 27 #[.string q, .int .i64 (q.size : Nat)] w fun e w' => e = .returned (.bool false) ∧ w' = w := fun w => by
        have := refCube_any q (q.size : Nat) w (by omega)
        simpa [hf] using this
      go_enter Tryd.func10, Tryd.ntmps10
      go_wp2_with (first
        | (go_at_call 15; refine (short_any s hsz _).mono ?_; rintro e w5 ⟨rfl, rfl⟩; rw [hq])
        | (go_at_call 52; go_loud (refine (hno _).mono ?_; rintro e w1 ⟨rfl, hb1⟩))
        | (go_at_call 27; go_loud (refine (hcube _).mono ?_; rintro e w6 ⟨rfl, rfl⟩))
        | (go_at_call 20; go_loud (refine (awake_w (tab_below hT hb1)).mono ?_; rintro e w4 ⟨rfl, hb4⟩)))
      go_ret
      exact ⟨rfl, below_trans hb1 hb4 hb1.size⟩
/-- CARDPOINTS: every call of the law says true. -/
theorem law_any (s : ByteArray) (hsz : s.size ≤ 9223372036854775807) (w : World) (ht : Lib.TabIs Tryd.prog w "math/bits.deBruijn32tab" .u8 zs) :
    Calls Tryd.prog 10 #[.string s] w fun e w' => e = .returned (.bool true) ∧ Below w.heap.size w w' := by
  by_cases h1 : (shortOf s).size < 1
  · exact law_no s hsz (.inl h1) w ht
  · by_cases h5 : 5 < (shortOf s).size
    · exact law_no s hsz (.inr (.inl h5)) w ht
    · cases hc : okCube (shortOf s)
      · exact law_no s hsz (.inr (.inr hc)) w ht
      · exact law_yes s hsz (by omega) (by omega) hc w ht
end Go.Proofs.YtioaaigbpfdjmaaDoor

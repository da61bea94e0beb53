import Derived.Test.YtioaaigbpfdjmaaDoorArgLists
import Derived.Test.YtioaaigbpfdjmaaDoorRefBalance
import Derived.Test.YtioaaigbpfdjmaaDoorLawPoints
namespace Go.Proofs.YtioaaigbpfdjmaaDoor
open Go Go.Proofs Go.RowKit Go.CRun
theorem arglists_below {w w' : World} {v : Value} {ls : List (List Int)} (h : ArgLists w v ls) (b : Below w.heap.size w w') : ArgLists w' v ls := by
  obtain ⟨A, cap, hv, hc⟩ := h
  refine ⟨A, cap, hv, fun k hk => ?_⟩
  obtain ⟨g, o, u, hA, hg, hu⟩ := hc k hk
  exact ⟨g, o, u, hA, cell_below hg b, argi_below hu b⟩
theorem ints_len {w : World} {v : Value} {zs : List Int} (h : IntsAt w v zs) : ∃ A cap, v = .slice A zs.length cap := by
  obtain ⟨A, cap, h, _⟩ := h; exact ⟨A, cap, h⟩
/-- What Realize returns. -/
def realR (s : ByteArray) (zs : List Int) (n : Nat) : Int := if zs.length = n + 1 then realV s zs n else 2
set_option maxRecDepth 100000 in
theorem realize_any {s : ByteArray} {v : Value} {zs : List Int} {w : World} {n : Nat} (h40 : s.size ≤ 40) (hn : totOf s = n) (h0 : n ≠ 0) (hv : IntsAt w v zs) (hcap : CapOK v) (hl : zs.length ≤ 1001) :
    Calls Tryd.prog 44 #[.string s, v] w fun e w' => e = .returned (.int .i64 (realR s zs n)) ∧ Below w.heap.size w w' := by
  obtain ⟨h1, h2, h3⟩ := tot_size hn h0
  have h32 : 2 ^ n ≤ 2 ^ 5 := Nat.pow_le_pow_right (by decide) h2
  unfold realR
  by_cases hlen : zs.length = n + 1
  · rw [if_pos hlen]
    exact realize_yes h40 ⟨hn⟩ h0 h2 ⟨rfl⟩ (by omega) ⟨h1⟩ hv hcap ⟨hlen⟩
  · rw [if_neg hlen]
    exact realize_no1 h40 ⟨hn⟩ h0 h2 hv hl (by omega)
def bal2 (s : ByteArray) (ls : List (List Int)) : Bool := match ls with | [a, b] => balB s a b | _ => false
theorem bal2_any {s : ByteArray} {v : Value} {ls : List (List Int)} {w : World} {n : Nat} (h40 : s.size ≤ 40) (hn : totOf s = n) (h0 : n ≠ 0) (hv : ListsAt w v ls) (hlen : ls.length ≤ 3) (hall : ∀ l ∈ ls, l.length ≤ 1001) {b : Bool} (hb : bal2 s ls = b) :
    Calls Tryd.prog 46 #[.string s, v] w fun e w' => e = .returned (.int .i64 (if b then 0 else 10)) ∧ Below w.heap.size w w' := by
  obtain ⟨h1, h2, h3⟩ := tot_size hn h0
  have h32 : 2 ^ n ≤ 2 ^ 5 := Nat.pow_le_pow_right (by decide) h2
  rcases ls with _ | ⟨a, _ | ⟨c, _ | ⟨d, r⟩⟩⟩
  · subst hb; exact balance_no h40 ⟨hn⟩ h0 hv hlen (by simp)
  · subst hb; exact balance_no h40 ⟨hn⟩ h0 hv hlen (by simp)
  · have h := balance_two h40 ⟨hn⟩ h0 (by omega) hv (hall a (by simp)) (hall c (by simp))
    have e : balV s a c = if b then 0 else 10 := by unfold balV; rw [← hb]; rfl
    rw [e] at h; exact h
  · subst hb; exact balance_no h40 ⟨hn⟩ h0 hv hlen (by simp)
theorem refBal_any {s : ByteArray} {v : Value} {ls : List (List Int)} {w : World} {n : Nat} (h40 : s.size ≤ 40) (hn : totOf s = n) (h0 : n ≠ 0) (hv : ListsAt w v ls) (hall : ∀ l ∈ ls, l.length ≤ 1001) {b : Bool} (hb : bal2 s ls = b) :
    Calls Tryd.prog 45 #[.string s, v] w fun e w' => e = .returned (.bool b) ∧ Below w.heap.size w w' := by
  obtain ⟨h1, h2, h3⟩ := tot_size hn h0
  rcases ls with _ | ⟨a, _ | ⟨c, _ | ⟨d, r⟩⟩⟩
  · subst hb; exact refBal_no hv (by simp)
  · subst hb; exact refBal_no hv (by simp)
  · have h := refBal_two h40 ⟨h3⟩ (by omega) h2 ⟨h1⟩ hv (hall a (by simp)) (hall c (by simp))
    rw [← hb]; exact h
  · subst hb; exact refBal_no hv (by simp)
set_option maxHeartbeats 1000000 in
set_option maxRecDepth 100000 in
theorem bal_zero {s : ByteArray} {v : Value} {w : World} (h40 : s.size ≤ 40) (hn : totOf s = 0) :
    Calls Tryd.prog 46 #[.string s, v] w fun e w' => e = .returned (.int .i64 2) ∧ Below w.heap.size w w' := by
  have hnk : Keep (totOf s = 0) := ⟨hn⟩
  clear hn
  go_enter Tryd.func46, Tryd.ntmps46
  go_wp2_with (go_at_call 73; refine (total_any s h40 _).mono ?_; rintro e w1 ⟨⟨O, Z, hO, hZ, rfl, hOZ⟩, hb1⟩; rw [hnk.out])
  go_ret
  exact ⟨rfl, hb1.alloc hb1.size _⟩
set_option maxRecDepth 100000 in
theorem realizes_zero {s q : ByteArray} (hsz : s.size ≤ 9223372036854775807) {v1 v2 : Value} {z1 : List Int} {ls : List (List Int)} {w : World} (hv1 : ArgInts w v1 z1) (hv2 : ArgLists w v2 ls) (hT : TabW w) (hq : shortOf s = q) (h40 : q.size ≤ 40) (hn : Keep (totOf q = 0)) :
    Calls Tryd.prog 8 #[.string s, v1, v2] w fun e w' => e = .returned (.bool true) ∧ Below w.heap.size w w' := by
  have hargs : Keep (ArgLists w v2 ls) := ⟨hv2⟩
  clear hv2
  go_enter Tryd.func8, Tryd.ntmps8
  go_wp2_with (first
    | (go_at_call 15; refine (short_any s hsz _).mono ?_; rintro e w ⟨rfl, rfl⟩; rw [hq])
    | (go_at_call 47; refine (copy_any hv1).mono ?_; rintro e w1 ⟨a1, rfl, hown1, hb1⟩)
    | (go_at_call 48; refine (lists_any (arglists_below hargs.out hb1)).mono ?_; rintro e w2 ⟨a2, rfl, hl2, hb2⟩
       have hB := below_trans hb1 hb2 hb1.size
       clear hb1 hb2 hown1)
    | (go_at_call 44; refine (realize_no0 h40 hn.out).mono ?_; rintro e w3 ⟨rfl, hb3⟩; have hB3 := below_trans hB hb3 hB.size; clear hb3 hl2)
    | (go_at_call 46; refine (bal_zero h40 hn.out).mono ?_; rintro e w4 ⟨rfl, hb4⟩; have hB4 := below_trans hB3 hb4 hB3.size; clear hb4)
    | (go_at_call 37; refine (refTotal_any q h40 _).mono ?_; rintro e w4 ⟨rfl, rfl⟩; rw [hn.out])
    | (go_at_call 20; go_loud (refine (awake_w (tab_below hT hB4)).mono ?_; rintro e w5 ⟨rfl, hb5⟩)))
  go_ret
  exact ⟨rfl, below_trans hB4 hb5 hB4.size⟩
set_option maxHeartbeats 2000000 in
set_option maxRecDepth 100000 in
theorem realizes_yes {s q : ByteArray} (hsz : s.size ≤ 9223372036854775807) {v1 v2 : Value} {z1 zs : List Int} {ls cs : List (List Int)} {w : World} {n N : Nat} (hv1 : ArgInts w v1 z1) (hv2 : ArgLists w v2 ls) (hT : TabW w) (hq : shortOf s = q) (h40 : q.size ≤ 40)
    (hz : Keep (z1.take 1001 = zs)) (hcs : Keep (cut3 ls = cs)) (hl1 : zs.length ≤ 1001) (hl3 : cs.length ≤ 3) (hl2 : ∀ l ∈ cs, l.length ≤ 1001) (hn : Keep (totOf q = n)) (hvn : Keep (varsOf q = n)) (h0 : n ≠ 0) (hn5 : n ≤ 5) (hN32 : N ≤ 32) (hqs : Keep (q.size = N))
    {bW bR b2 : Bool} (hW : Keep ((smallW zs && decide (zs.length = n + 1)) = bW)) (hR : Keep (okReal q zs n = bR)) (hB2 : Keep (bal2 q cs = b2)) (hreal : Keep (realR q zs n = if bW then (if bR then 0 else 10) else 2)) :
    Calls Tryd.prog 8 #[.string s, v1, v2] w fun e w' => e = .returned (.bool true) ∧ Below w.heap.size w w' := by
  have hargs : Keep (ArgLists w v2 ls) := ⟨hv2⟩
  have hl2k : Keep (∀ l ∈ cs, l.length ≤ 1001) := ⟨hl2⟩
  have h0k : Keep (n ≠ 0) := ⟨h0⟩
  have hd : decide (n ≠ 0) = true := decide_eq_true h0
  clear hv2 hl2 h0
  cases bW <;> cases bR <;> cases b2
  all_goals
    go_enter Tryd.func8, Tryd.ntmps8
    go_wp2_with (first
      | (go_at_call 15; refine (short_any s hsz _).mono ?_; rintro e w ⟨rfl, rfl⟩; rw [hq])
      | (go_at_call 47; refine (copy_any hv1).mono ?_; rintro e w1 ⟨a1, rfl, hown1, hb1⟩; rw [hz.out] at hown1)
      | (go_at_call 48; refine (lists_any (arglists_below hargs.out hb1)).mono ?_; rintro e w2 ⟨a2, rfl, hl2, hb2⟩
         rw [hcs.out] at hl2
         have hi1 : Keep (IntsAt w2 a1 zs ∧ CapOK a1) := ⟨ints_below (own_cellz hown1) hb2, cap_own hown1⟩
         have hli : Keep (ListsAt w2 a2 cs) := ⟨hl2⟩
         have hB := below_trans hb1 hb2 hb1.size
         clear hb1 hb2 hown1 hl2)
      | (go_at_call 44; go_loud (refine (realize_any h40 hn.out h0k.out hi1.out.1 hi1.out.2 hl1).mono ?_; rintro e w3 ⟨rfl, hb3⟩; rw [hreal.out]; have hB3 := below_trans hB hb3 hB.size; have hi3 : Keep (IntsAt w3 a1 zs) := ⟨ints_below hi1.out.1 hb3⟩; have hli3 : Keep (ListsAt w3 a2 cs) := ⟨lists_below hli.out hb3⟩; clear hb3 hi1 hli))
      | (go_at_call 46; go_loud (refine (bal2_any h40 hn.out h0k.out hli3.out hl3 hl2k.out hB2.out).mono ?_; rintro e w4 ⟨rfl, hb4⟩; have hB4 := below_trans hB3 hb4 hB3.size; have hi4 : Keep (IntsAt w4 a1 zs) := ⟨ints_below hi3.out hb4⟩; have hli4 : Keep (ListsAt w4 a2 cs) := ⟨lists_below hli3.out hb4⟩; clear hb4 hi3 hli3))
      | (go_at_call 37; refine (refTotal_any q h40 _).mono ?_; rintro e w4 ⟨rfl, rfl⟩; rw [hn.out, hd])
      | (go_at_call 19; refine (vars_any q h40 _).mono ?_; rintro e w4 ⟨rfl, rfl⟩; rw [hvn.out])
      | (go_at_call 42; go_loud (refine (refWeights_any hi4.out hn5 hl1).mono ?_; rintro e w5 ⟨rfl, hb5⟩; rw [hW.out]; have hB5 := below_trans hB4 hb5 hB4.size; have hi5 : Keep (IntsAt w5 a1 zs) := ⟨ints_below hi4.out hb5⟩; have hli5 : Keep (ListsAt w5 a2 cs) := ⟨lists_below hli4.out hb5⟩; clear hb5 hi4 hli4))
      | (go_at_call 43; go_loud (
          have hWo := hW.out
          rw [Bool.and_eq_true] at hWo
          refine (refRealize_any h40 hvn hn5 hN32 hqs hi5.out ⟨of_decide_eq_true hWo.2⟩ hWo.1).mono ?_; rintro e w6 ⟨rfl, hb6⟩; rw [hR.out]; have hB6 := below_trans hB5 hb6 hB5.size; have hli6 : Keep (ListsAt w6 a2 cs) := ⟨lists_below hli5.out hb6⟩; clear hb6 hi5 hli5 hWo))
      | (go_at_call 45; first
          | (refine (refBal_any h40 hn.out h0k.out hli6.out hl2k.out hB2.out).mono ?_; rintro e w7 ⟨rfl, hb7⟩; have hB7 := below_trans hB6 hb7 hB6.size; clear hb7 hli6)
          | (refine (refBal_any h40 hn.out h0k.out hli5.out hl2k.out hB2.out).mono ?_; rintro e w7 ⟨rfl, hb7⟩; have hB7 := below_trans hB5 hb7 hB5.size; clear hb7 hli5))
      | (go_at_call 20; go_loud (refine (awake_w (tab_below hT hB7)).mono ?_; rintro e w8 ⟨rfl, hb8⟩)))
    go_ret
    exact ⟨rfl, below_trans hB7 hb8 hB7.size⟩
/-- CARDREALIZES: every call of the law says true. -/
theorem realizes_any {s : ByteArray} (hsz : s.size ≤ 9223372036854775807) {v1 v2 : Value} {z1 : List Int} {ls : List (List Int)} {w : World} (hv1 : ArgInts w v1 z1) (hv2 : ArgLists w v2 ls) (hT : TabW w) :
    Calls Tryd.prog 8 #[.string s, v1, v2] w fun e w' => e = .returned (.bool true) ∧ Below w.heap.size w w' := by
  have h40 := shortOf_size s
  by_cases h0 : totOf (shortOf s) = 0
  · exact realizes_zero hsz hv1 hv2 hT rfl h40 ⟨h0⟩
  · obtain ⟨h1, h2, h3⟩ := tot_size rfl h0
    have h32 : 2 ^ totOf (shortOf s) ≤ 2 ^ 5 := Nat.pow_le_pow_right (by decide) h2
    refine realizes_yes hsz hv1 hv2 hT rfl h40 ⟨rfl⟩ ⟨rfl⟩ (by rw [List.length_take]; omega) (by rw [cut3_len]; omega) (fun l hl => ?_) ⟨rfl⟩ ⟨h3⟩ h0 h2 (N := 2 ^ totOf (shortOf s)) (by omega) ⟨h1⟩ ⟨rfl⟩ ⟨rfl⟩ ⟨rfl⟩ ⟨?_⟩
    · unfold cut3 at hl
      rw [List.mem_map] at hl
      obtain ⟨x, _, rfl⟩ := hl
      rw [List.length_take]; omega
    · unfold realR realV
      by_cases hlen : (z1.take 1001).length = totOf (shortOf s) + 1
      · rw [if_pos hlen, decide_eq_true hlen, Bool.and_true]
      · rw [if_neg hlen, decide_eq_false hlen, Bool.and_false]
        rfl
end Go.Proofs.YtioaaigbpfdjmaaDoor

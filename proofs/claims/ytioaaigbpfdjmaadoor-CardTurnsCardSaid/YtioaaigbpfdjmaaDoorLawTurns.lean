import Derived.Test.YtioaaigbpfdjmaaDoorArgRows
import Derived.Test.YtioaaigbpfdjmaaDoorTurnYes
import Derived.Test.YtioaaigbpfdjmaaDoorCopy
import Derived.Test.YtioaaigbpfdjmaaDoorLawPoints
namespace Go.Proofs.YtioaaigbpfdjmaaDoor
open Go Go.Proofs Go.RowKit Go.CRun
theorem arg_below {w w' : World} {v : Value} {zs : List Int} (h : ArgInts w v zs) (b : Below w.heap.size w w') : ArgInts w' v zs := by
  rcases h with h | h | ⟨g, o, cap, hv, h1, h2, h3, h4⟩
  · exact .inl h
  · exact .inr (.inl h)
  · exact .inr (.inr ⟨g, o, cap, hv, h1, h2, Nat.lt_of_lt_of_le h3 b.size, fun i hi => by rw [b.cell (p := ⟨g, o + i, none⟩) h3]; exact h4 i hi⟩)
set_option maxRecDepth 100000 in
theorem turns_no0 {s q : ByteArray} (hsz : s.size ≤ 9223372036854775807) {v1 v2 : Value} {z1 z2 zs ys : List Int} {w : World} {n : Nat} (hv1 : ArgInts w v1 z1) (hv2 : ArgInts w v2 z2) (hT : TabW w) (hq : shortOf s = q) (h40 : q.size ≤ 40) (hz1 : Keep (z1.take 1001 = zs)) (hz2 : Keep (z2.take 1001 = ys)) (hl1 : zs.length ≤ 1001) (hl2 : ys.length ≤ 1001) (hn : Keep (varsOf q = n)) (hn5 : n ≤ 5) (h0 : n = 0) :
    Calls Tryd.prog 9 #[.string s, v1, v2] w fun e w' => e = .returned (.bool true) ∧ Below w.heap.size w w' := by
  go_enter Tryd.func9, Tryd.ntmps9
  go_wp2_with (first
    | (go_at_call 15; refine (short_any s hsz _).mono ?_; rintro e w ⟨rfl, rfl⟩; rw [hq])
    | (go_at_call 47; refine (copy_any (arg_below hv2 hb1)).mono ?_; rintro e w2 ⟨a2, rfl, hown2, hb2⟩
       rw [hz2.out] at hown2
       have hi1 := ints_below (own_cellz hown1) hb2
       have hi2 := own_cellz hown2
       have hB := below_trans hb1 hb2 hb1.size
       clear hb1 hb2 hown1 hown2)
    | (go_at_call 47; refine (copy_any hv1).mono ?_; rintro e w1 ⟨a1, rfl, hown1, hb1⟩; rw [hz1.out] at hown1)
    | (go_at_call 49; go_loud (refine (turn_no0 h40 hl1 hl2 hi1 hi2 hn5 hn h0).mono ?_; rintro e w3 ⟨rfl, hb3⟩; have hB3 := below_trans hB hb3 hB.size; subst h0; clear hb3 hi1 hi2))
    | (go_at_call 19; refine (vars_any q h40 _).mono ?_; rintro e w3 ⟨rfl, rfl⟩; rw [hn.out])
    | (go_at_call 20; go_loud (refine (awake_w (tab_below hT hB3)).mono ?_; rintro e w4 ⟨rfl, hb4⟩)))
  go_ret
  exact ⟨rfl, below_trans hB3 hb4 hB3.size⟩
set_option maxRecDepth 100000 in
theorem turns_no1 {s q : ByteArray} (hsz : s.size ≤ 9223372036854775807) {v1 v2 : Value} {z1 z2 zs ys : List Int} {w : World} {n : Nat} (hv1 : ArgInts w v1 z1) (hv2 : ArgInts w v2 z2) (hT : TabW w) (hq : shortOf s = q) (h40 : q.size ≤ 40) (hz1 : Keep (z1.take 1001 = zs)) (hz2 : Keep (z2.take 1001 = ys)) (hl1 : zs.length ≤ 1001) (hl2 : ys.length ≤ 1001) (hn : Keep (varsOf q = n)) (hn5 : n ≤ 5) (h0 : n ≠ 0) (hne : ¬ ((zs.length : Int) = (n : Int))) :
    Calls Tryd.prog 9 #[.string s, v1, v2] w fun e w' => e = .returned (.bool true) ∧ Below w.heap.size w w' := by
  have hnz : ¬ ((n : Int) = 0) := by omega
  go_enter Tryd.func9, Tryd.ntmps9
  go_wp2_with (first
    | (go_at_call 15; refine (short_any s hsz _).mono ?_; rintro e w ⟨rfl, rfl⟩; rw [hq])
    | (go_at_call 47; refine (copy_any (arg_below hv2 hb1)).mono ?_; rintro e w2 ⟨a2, rfl, hown2, hb2⟩
       rw [hz2.out] at hown2
       have hi1 := ints_below (own_cellz hown1) hb2
       have hi2 := own_cellz hown2
       have hB := below_trans hb1 hb2 hb1.size
       obtain ⟨A1, cap1, ha1, _⟩ := id hi1
       subst ha1
       clear hb1 hb2 hown1 hown2)
    | (go_at_call 47; refine (copy_any hv1).mono ?_; rintro e w1 ⟨a1, rfl, hown1, hb1⟩; rw [hz1.out] at hown1)
    | (go_at_call 49; go_loud (refine (turn_no1 h40 hl1 hl2 hi1 hi2 hn5 hn h0 hne).mono ?_; rintro e w3 ⟨rfl, hb3⟩; have hB3 := below_trans hB hb3 hB.size; clear hb3 hi1 hi2))
    | (go_at_call 19; refine (vars_any q h40 _).mono ?_; rintro e w3 ⟨rfl, rfl⟩; rw [hn.out])
    | (go_at_call 20; go_loud (refine (awake_w (tab_below hT hB3)).mono ?_; rintro e w4 ⟨rfl, hb4⟩)))
  go_ret
  exact ⟨rfl, below_trans hB3 hb4 hB3.size⟩
set_option maxRecDepth 100000 in
theorem turns_no2 {s q : ByteArray} (hsz : s.size ≤ 9223372036854775807) {v1 v2 : Value} {z1 z2 zs ys : List Int} {w : World} {n : Nat} (hv1 : ArgInts w v1 z1) (hv2 : ArgInts w v2 z2) (hT : TabW w) (hq : shortOf s = q) (h40 : q.size ≤ 40) (hz1 : Keep (z1.take 1001 = zs)) (hz2 : Keep (z2.take 1001 = ys)) (hl1 : zs.length ≤ 1001) (hl2 : ys.length ≤ 1001) (hn : Keep (varsOf q = n)) (hn5 : n ≤ 5) (h0 : n ≠ 0) (hlen : Keep (zs.length = n)) (hD1 : diffB zs n = false) :
    Calls Tryd.prog 9 #[.string s, v1, v2] w fun e w' => e = .returned (.bool true) ∧ Below w.heap.size w w' := by
  have hnz : ¬ ((n : Int) = 0) := by omega
  go_enter Tryd.func9, Tryd.ntmps9
  go_wp2_with (first
    | (go_at_call 15; refine (short_any s hsz _).mono ?_; rintro e w ⟨rfl, rfl⟩; rw [hq])
    | (go_at_call 47; refine (copy_any (arg_below hv2 hb1)).mono ?_; rintro e w2 ⟨a2, rfl, hown2, hb2⟩
       rw [hz2.out] at hown2
       have hi1 := ints_below (own_cellz hown1) hb2
       have hi2 := own_cellz hown2
       have hB := below_trans hb1 hb2 hb1.size
       obtain ⟨A1, cap1, ha1, _⟩ := id hi1
       subst ha1
       rw [hlen.out] at hi1 ⊢
       clear hb1 hb2 hown1 hown2)
    | (go_at_call 47; refine (copy_any hv1).mono ?_; rintro e w1 ⟨a1, rfl, hown1, hb1⟩; rw [hz1.out] at hown1)
    | (go_at_call 49; go_loud (refine (turn_no2 h40 hl1 hl2 hi1 hi2 hn5 hn h0 hlen.out hD1).mono ?_; rintro e w3 ⟨rfl, hb3⟩; have hB3 := below_trans hB hb3 hB.size; have hi3 := ints_below hi1 hb3; clear hb3 hi1 hi2))
    | (go_at_call 19; refine (vars_any q h40 _).mono ?_; rintro e w3 ⟨rfl, rfl⟩; rw [hn.out])
    | (go_at_call 50; go_loud (refine (distinct_any (n := n) hi3 hl1).mono ?_; rintro e w5 ⟨rfl, hb5⟩; rw [hD1]; have hB5 := below_trans hB3 hb5 hB3.size; clear hb5 hi3))
    | (go_at_call 20; go_loud (refine (awake_w (tab_below hT hB5)).mono ?_; rintro e w4 ⟨rfl, hb4⟩)))
  go_ret
  exact ⟨rfl, below_trans hB5 hb4 hB5.size⟩
set_option maxRecDepth 100000 in
theorem turns_no3 {s q : ByteArray} (hsz : s.size ≤ 9223372036854775807) {v1 v2 : Value} {z1 z2 zs ys : List Int} {w : World} {n : Nat} (hv1 : ArgInts w v1 z1) (hv2 : ArgInts w v2 z2) (hT : TabW w) (hq : shortOf s = q) (h40 : q.size ≤ 40) (hz1 : Keep (z1.take 1001 = zs)) (hz2 : Keep (z2.take 1001 = ys)) (hl1 : zs.length ≤ 1001) (hl2 : ys.length ≤ 1001) (hn : Keep (varsOf q = n)) (hn5 : n ≤ 5) (h0 : n ≠ 0) (hlen : Keep (zs.length = n)) (hD1 : diffB zs n = true) (hD2 : diffB ys n = false) :
    Calls Tryd.prog 9 #[.string s, v1, v2] w fun e w' => e = .returned (.bool true) ∧ Below w.heap.size w w' := by
  have hnz : ¬ ((n : Int) = 0) := by omega
  go_enter Tryd.func9, Tryd.ntmps9
  go_wp2_with (first
    | (go_at_call 15; refine (short_any s hsz _).mono ?_; rintro e w ⟨rfl, rfl⟩; rw [hq])
    | (go_at_call 47; refine (copy_any (arg_below hv2 hb1)).mono ?_; rintro e w2 ⟨a2, rfl, hown2, hb2⟩
       rw [hz2.out] at hown2
       have hi1 := ints_below (own_cellz hown1) hb2
       have hi2 := own_cellz hown2
       have hB := below_trans hb1 hb2 hb1.size
       obtain ⟨A1, cap1, ha1, _⟩ := id hi1
       subst ha1
       rw [hlen.out] at hi1 ⊢
       clear hb1 hb2 hown1 hown2)
    | (go_at_call 47; refine (copy_any hv1).mono ?_; rintro e w1 ⟨a1, rfl, hown1, hb1⟩; rw [hz1.out] at hown1)
    | (go_at_call 49; go_loud (refine (turn_no3 h40 hl1 hl2 hi1 hi2 hn5 hn h0 hlen.out hD1 hD2).mono ?_; rintro e w3 ⟨rfl, hb3⟩; have hB3 := below_trans hB hb3 hB.size; have hi3 := ints_below hi1 hb3; have hi4 := ints_below hi2 hb3; clear hb3 hi1 hi2))
    | (go_at_call 19; refine (vars_any q h40 _).mono ?_; rintro e w3 ⟨rfl, rfl⟩; rw [hn.out])
    | (go_at_call 50; refine (distinct_any (n := n) hi5 hl2).mono ?_; rintro e w6 ⟨rfl, hb6⟩; rw [hD2]; have hB6 := below_trans hB5 hb6 hB5.size; clear hb6)
    | (go_at_call 50; go_loud (refine (distinct_any (n := n) hi3 hl1).mono ?_; rintro e w5 ⟨rfl, hb5⟩; rw [hD1]; have hB5 := below_trans hB3 hb5 hB3.size; have hi5 := ints_below hi4 hb5; clear hb5 hi3))
    | (go_at_call 20; go_loud (refine (awake_w (tab_below hT hB6)).mono ?_; rintro e w4 ⟨rfl, hb4⟩)))
  go_ret
  exact ⟨rfl, below_trans hB6 hb4 hB6.size⟩
set_option maxRecDepth 100000 in
theorem turns_yes {s q : ByteArray} (hsz : s.size ≤ 9223372036854775807) {v1 v2 : Value} {z1 z2 zs ys : List Int} {w : World} {n : Nat} (hv1 : ArgInts w v1 z1) (hv2 : ArgInts w v2 z2) (hT : TabW w) (hq : shortOf s = q) (h40 : q.size ≤ 40) (hz1 : Keep (z1.take 1001 = zs)) (hz2 : Keep (z2.take 1001 = ys)) (hl1 : zs.length ≤ 1001) (hl2 : ys.length ≤ 1001) (hn : Keep (varsOf q = n)) (hn5 : n ≤ 5) {os fs : List Nat} {N : Nat} {S : ByteArray} (h0 : n ≠ 0) (hlen : Keep (zs.length = n)) (hD1 : diffB zs n = true) (hD2 : diffB ys n = true) (hz : zs = os.map (fun x : Nat => (x : Int))) (hy : ys = fs.map (fun x : Nat => (x : Int))) (hol : os.length = n) (hfl : fs.length ≤ 1001) (hlt : ∀ x ∈ os, x < n) (hflt : ∀ x ∈ fs, x < n) (hnd : os.Nodup) (hfd : fs.Nodup) (hN : Keep (N = 2 ^ n)) (hN32 : N ≤ 32)
    (hS : Keep ((⟨(pickL q (fun p => movK (p ^^^ maskOf fs) os n) N).toArray⟩ : ByteArray) = S)) (hS2 : Keep ((⟨(pickL q (fun p => sumK (p ^^^ sumsOf fs) os n) q.size).toArray⟩ : ByteArray) = S)) :
    Calls Tryd.prog 9 #[.string s, v1, v2] w fun e w' => e = .returned (.bool true) ∧ Below w.heap.size w w' := by
  have hnz : ¬ ((n : Int) = 0) := by omega
  go_enter Tryd.func9, Tryd.ntmps9
  go_wp2_with (first
    | (go_at_call 15; refine (short_any s hsz _).mono ?_; rintro e w ⟨rfl, rfl⟩; rw [hq])
    | (go_at_call 47; refine (copy_any (arg_below hv2 hb1)).mono ?_; rintro e w2 ⟨a2, rfl, hown2, hb2⟩
       rw [hz2.out] at hown2
       have hi1 := ints_below (own_cellz hown1) hb2
       have hi2 := own_cellz hown2
       have hB := below_trans hb1 hb2 hb1.size
       obtain ⟨A1, cap1, ha1, _⟩ := id hi1
       subst ha1
       rw [hlen.out] at hi1 ⊢
       clear hb1 hb2 hown1 hown2)
    | (go_at_call 47; refine (copy_any hv1).mono ?_; rintro e w1 ⟨a1, rfl, hown1, hb1⟩; rw [hz1.out] at hown1)
    | (go_at_call 49; go_loud (refine (turn_yes (N := N) h40 hfl (hz ▸ hi1) (hy ▸ hi2) hn5 hN hN32 hn h0 hol (hz ▸ hD1) (hy ▸ hD2) hlt hflt).mono ?_; rintro e w3 ⟨rfl, hb3⟩; rw [hS.out]; have hB3 := below_trans hB hb3 hB.size; have hi3 := ints_below hi1 hb3; have hi4 := ints_below hi2 hb3; clear hb3 hi1 hi2))
    | (go_at_call 19; refine (vars_any q h40 _).mono ?_; rintro e w3 ⟨rfl, rfl⟩; rw [hn.out])
    | (go_at_call 50; refine (distinct_any (n := n) hi5 hl2).mono ?_; rintro e w6 ⟨rfl, hb6⟩; rw [hD2]; have hB6 := below_trans hB5 hb6 hB5.size; have hi7 := ints_below hi6 hb6; have hi8 := ints_below hi5 hb6; clear hb6 hi5 hi6)
    | (go_at_call 50; go_loud (refine (distinct_any (n := n) hi3 hl1).mono ?_; rintro e w5 ⟨rfl, hb5⟩; rw [hD1]; have hB5 := below_trans hB3 hb5 hB3.size; have hi5 := ints_below hi4 hb5; have hi6 := ints_below hi3 hb5; clear hb5 hi3))
    | (go_at_call 51; go_loud (refine (refTurn_any h40 hn.out h0 hol hlt hnd hfl hflt hfd (hz ▸ hi7) (hy ▸ hi8)).mono ?_; rintro e w7 ⟨rfl, hb7⟩; rw [hS2.out]; have hB7 := below_trans hB6 hb7 hB6.size; clear hb7))
    | (go_at_call 20; go_loud (refine (awake_w (tab_below hT hB7)).mono ?_; rintro e w4 ⟨rfl, hb4⟩)))
  go_ret
  exact ⟨rfl, below_trans hB7 hb4 hB7.size⟩
/-- CARDTURNS: every call of the law says true. -/
theorem turns_any {s : ByteArray} (hsz : s.size ≤ 9223372036854775807) {v1 v2 : Value} {z1 z2 : List Int} {w : World} (hv1 : ArgInts w v1 z1) (hv2 : ArgInts w v2 z2) (hT : TabW w) :
    Calls Tryd.prog 9 #[.string s, v1, v2] w fun e w' => e = .returned (.bool true) ∧ Below w.heap.size w w' := by
  have h40 := shortOf_size s
  have hn5 := varsOf_le (shortOf s)
  have hl1 : (z1.take 1001).length ≤ 1001 := by rw [List.length_take]; omega
  have hl2 : (z2.take 1001).length ≤ 1001 := by rw [List.length_take]; omega
  by_cases h0 : varsOf (shortOf s) = 0
  · exact turns_no0 hsz hv1 hv2 hT rfl h40 ⟨rfl⟩ ⟨rfl⟩ hl1 hl2 ⟨rfl⟩ hn5 h0
  · by_cases hlen : (z1.take 1001).length = varsOf (shortOf s)
    · cases hD1 : diffB (z1.take 1001) (varsOf (shortOf s))
      · exact turns_no2 hsz hv1 hv2 hT rfl h40 ⟨rfl⟩ ⟨rfl⟩ hl1 hl2 ⟨rfl⟩ hn5 h0 ⟨hlen⟩ hD1
      · cases hD2 : diffB (z2.take 1001) (varsOf (shortOf s))
        · exact turns_no3 hsz hv1 hv2 hT rfl h40 ⟨rfl⟩ ⟨rfl⟩ hl1 hl2 ⟨rfl⟩ hn5 h0 ⟨hlen⟩ hD1 hD2
        · obtain ⟨os, hos, hnd, hlt⟩ := diff_nats hD1
          obtain ⟨fs, hfs, hfd, hflt⟩ := diff_nats hD2
          have hol : os.length = varsOf (shortOf s) := by rw [← hlen, hos, List.length_map]
          have hfl : fs.length ≤ 1001 := by rw [hfs, List.length_map] at hl2; exact hl2
          have hN32 : 2 ^ varsOf (shortOf s) ≤ 32 := Nat.pow_le_pow_right (n := 2) (by decide) hn5
          have hsz2 := (varsOf_size h0).1
          have h5o : ∀ x ∈ os, x < 5 := fun x hx => by have := hlt x hx; omega
          have h5f : ∀ x ∈ fs, x < 5 := fun x hx => by have := hflt x hx; omega
          have hms : maskOf fs = sumsOf fs := by have := mask_sums fs h5f hfd fs.length (Nat.le_refl _); rwa [List.take_length] at this
          have hfun : (fun p => sumK (p ^^^ sumsOf fs) os (varsOf (shortOf s))) = (fun p => movK (p ^^^ maskOf fs) os (varsOf (shortOf s))) := by
            funext p
            rw [hms]
            exact ((mov_sum _ os h5o hnd _ (by omega)).2.2).symm
          exact turns_yes hsz hv1 hv2 hT rfl h40 ⟨rfl⟩ ⟨rfl⟩ hl1 hl2 ⟨rfl⟩ hn5 h0 ⟨hlen⟩ hD1 hD2 hos hfs hol hfl hlt hflt hnd hfd ⟨rfl⟩ hN32 ⟨rfl⟩ ⟨by rw [hfun, hsz2]⟩
    · exact turns_no1 hsz hv1 hv2 hT rfl h40 ⟨rfl⟩ ⟨rfl⟩ hl1 hl2 ⟨rfl⟩ hn5 h0 (by omega)
end Go.Proofs.YtioaaigbpfdjmaaDoor

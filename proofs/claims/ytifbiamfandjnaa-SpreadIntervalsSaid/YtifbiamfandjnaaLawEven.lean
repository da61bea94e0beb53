import Derived.Test.YtifbiamfandjnaaEvenMath
import Derived.Test.YtifbiamfandjnaaGapsWalk
import Derived.Test.YtifbiamfandjnaaAwake
import Derived.Test.YtifbiamfandjnaaLineAny
set_option linter.unusedSimpArgs false
set_option linter.unusedVariables false
namespace Go.Proofs.Ytifbiamfandjnaa
open Go Go.Proofs Go.RowKit Gap
/-- A row of Bools that the call itself has laid. -/
def BoolsAt (w : World) (G N : Nat) (f : Nat → Bool) : Prop := ∀ j, j < N → w.cell? ⟨G, j, none⟩ = some (.bool (f j)) ∧ w.frozen? ⟨G, j, none⟩ = false
theorem bools_below {w w' : World} {G N : Nat} {f : Nat → Bool} (h : BoolsAt w G N f) (b : Below w.heap.size w w') : BoolsAt w' G N f := by
  intro j hj
  obtain ⟨h1, h2⟩ := h j hj
  have hG : G < w.heap.size := by
    rcases Nat.lt_or_ge G w.heap.size with h' | h'
    · exact h'
    · simp [World.cell?, Array.getElem?_eq_none h'] at h1
  exact ⟨cell_below h1 b, (b.frozen (p := ⟨G, j, none⟩) hG).trans h2⟩
theorem bools_set {w : World} {G N p : Nat} {f g : Nat → Bool} (h : BoolsAt w G N f) (hp : p < N) {z : Bool} (hz : g p = z) (hg : ∀ j, j < N → j ≠ p → g j = f j) : BoolsAt (w.setCell ⟨G, p, none⟩ (.bool z)) G N g := by
  intro j hj
  obtain ⟨c1, c2⟩ := h j hj
  obtain ⟨d1, d2⟩ := h p hp
  by_cases hjp : j = p
  · subst hjp
    rw [hz]
    exact ⟨by go_simp, by go_simp⟩
  · rw [hg j hj hjp]
    have hne : ¬ p = j := fun h => hjp h.symm
    generalize f j = y at c1 ⊢
    clear hz
    exact ⟨by go_simp, by go_simp⟩
theorem made_bools (n : Nat) : (madeCells (Value.bool false).cells (n * 1)).toList.length = n ∧ ∀ j (hj : j < (madeCells (Value.bool false).cells (n * 1)).toList.length), (madeCells (Value.bool false).cells (n * 1)).toList[j] = .bool false := by
  have e : (Value.bool false).cells = #[.bool false] := rfl
  rw [e]
  refine ⟨by simp [size_madeCells], fun j hj => ?_⟩
  simp [madeCells, Nat.mod_one]
theorem bools_start {w : World} {B G n : Nat} (h : w.ownsRow B 4 1 (.slice (some ⟨G, 0, none⟩) n n) n (madeCells (Value.bool false).cells (n * 1)).toList) : BoolsAt w G n (fun _ => false) := by
  rcases h.2 with ⟨h0, _⟩ | ⟨g, cap, cur, hv, hg, hh, h1, h2, h3, h4⟩
  · cases h0
  · cases hv
    intro j hj
    obtain ⟨m1, m2⟩ := made_bools n
    have hl : cur[j]? = some (.bool false) := by
      have e : (cur.toList.take (n * 1))[j]? = (madeCells (Value.bool false).cells (n * 1)).toList[j]? := by rw [h4]
      have e2 : (madeCells (Value.bool false).cells (n * 1)).toList[j]? = some (.bool false) := by
        rw [List.getElem?_eq_getElem (show j < _ by rw [m1]; exact hj), m2 j (by rw [m1]; exact hj)]
      rw [List.getElem?_take_of_lt (by omega), e2] at e
      rw [← Array.getElem?_toList, e]
    simp [World.cell?, World.frozen?, hh, hl]
theorem ty78 : Try.prog.underlying 78 = some (.slice 4) := by kernel_rfl
theorem info4 : (Try.prog.info? 4).map (fun i => (i.zero, i.size, i.bytes)) = some (some (.bool false), 1, 1) := by kernel_rfl
theorem eqF (a b : Int) (w : World) : (Op.equalIn 10000 25 (.agg #[.int .i64 a, .int .i64 b]) (.agg #[.int .i64 a, .int .i64 b])).run Try.prog w = .ok true w := by
  rw [eq25]; simp
theorem mod_val (x : Int) {m : Nat} (h1 : 1 ≤ m) (h2 : m ≤ 1000000000) : ∃ r : Nat, r < m ∧ ∀ w : World, Calls Try.prog 49 #[.int .i64 x, .int .i64 m] w fun e w' => e = .returned (.int .i64 r) ∧ w' = w := by
  obtain ⟨q, hq⟩ : ∃ q : Nat, IntKind.u64.wrap x = (q : Int) ∧ q < 18446744073709551616 := by
    have : IntKind.u64.wrap x = x % 18446744073709551616 := rfl
    exact ⟨(x % 18446744073709551616).toNat, by rw [this]; omega, by omega⟩
  obtain ⟨hq1, hq2⟩ := hq
  have e2 : IntKind.u64.wrap (m : Int) = (m : Int) := IntWalk.u64_in _ (by omega)
  have hm0 : ((m : Int) == 0) = false := by rw [beq_eq_false_iff_ne]; omega
  have hm : q % m < m := Nat.mod_lt _ (by omega)
  obtain ⟨r, hr⟩ : ∃ r, Keep (q % m = r) := ⟨_, ⟨rfl⟩⟩
  refine ⟨r, by rw [← hr.out]; exact hm, fun w => ?_⟩
  have hw : IntKind.u64.wrap ((q : Int).tmod (m : Int)) = (r : Int) := by
    rw [← hr.out, IntWalk.up_tmod rfl rfl, IntWalk.u64_in _ (by omega)]
  rw [hr.out] at hm
  have e4 : IntKind.i64.wrap (r : Int) = (r : Int) := IntWalk.i64_in _ (by omega)
  have e5 : wrap64 ((q : Int) % (m : Int)) = (r : Int) := by
    have : ((q : Int) % (m : Int)) = (r : Int) := by rw [← hr.out]; rfl
    rw [this]; unfold wrap64; omega
  have hmz : ¬ m = 0 := by omega
  clear hm h1 h2 hq2
  go_enter Try.func49, Try.ntmps49
  go_wp2
  go_ret
  exact ⟨by simp [e5], rfl⟩
set_option maxHeartbeats 2000000 in
set_option maxRecDepth 100000 in
theorem even_zero {b d : Int} (w : World) {r s : Nat} (hr : r < 15) (hs : s < 5) (hbig : 60 < (2 + r) ^ (1 + s)) (hb : ∀ w, Calls Try.prog 49 #[.int .i64 b, .int .i64 15] w fun e w' => e = .returned (.int .i64 r) ∧ w' = w)
    (hd : ∀ w, Calls Try.prog 49 #[.int .i64 d, .int .i64 5] w fun e w' => e = .returned (.int .i64 s) ∧ w' = w) :
    Calls Try.prog 10 #[.int .i64 b, .int .i64 d] w fun e w' => e = .returned (.bool true) ∧ Below w.heap.size w w' := by
  have q42 := fun w => whole_yes (b := 2 + r) (D := 1 + s) (most := 60) (by omega) (by omega) (by omega) (by omega) (by omega) (by omega) w
  rw [if_neg (by omega)] at q42
  rw [show ((2 + r : Nat) : Int) = 2 + (r : Int) by omega, show ((1 + s : Nat) : Int) = 1 + (s : Int) by omega, show ((60 : Nat) : Int) = 60 from rfl] at q42
  clear hbig
  go_enter Try.func10, Try.ntmps10
  go_wp2_with (first
    | (go_at_call 49; (with_reducible refine (hb _).mono ?_); rintro e w1 ⟨rfl, rfl⟩; clear hb)
    | (go_at_call 49; (with_reducible refine (hd _).mono ?_); rintro e w1 ⟨rfl, rfl⟩; clear hd)
    | (go_at_call 42; (with_reducible refine (q42 _).mono ?_); rintro e w1 ⟨rfl, rfl⟩; clear q42)
    | (go_at_call 19; refine (awake_any _).mono ?_; rintro e w9 ⟨rfl, hb9⟩))
  all_goals go_ret
  all_goals exact ⟨rfl, hb9⟩
set_option maxHeartbeats 4000000 in
set_option maxRecDepth 100000 in
theorem even_some {b d : Int} (w : World) {r s S : Nat} (hr : r < 15) (hs : s < 5) (hS : (2 + r) ^ (1 + s) = S) (hsm : S ≤ 60) (hb : ∀ w, Calls Try.prog 49 #[.int .i64 b, .int .i64 15] w fun e w' => e = .returned (.int .i64 r) ∧ w' = w)
    (hd : ∀ w, Calls Try.prog 49 #[.int .i64 d, .int .i64 5] w fun e w' => e = .returned (.int .i64 s) ∧ w' = w) :
    Calls Try.prog 10 #[.int .i64 b, .int .i64 d] w fun e w' => e = .returned (.bool true) ∧ Below w.heap.size w w' := by
  obtain ⟨i0, hi, hz0, hz1, hz2⟩ := info_parts info4
  have hS1 : 1 ≤ S := by rw [← hS]; exact Nat.pow_pos (by omega)
  have q42 := fun w => whole_yes (b := 2 + r) (D := 1 + s) (most := 60) (by omega) (by omega) (by omega) (by omega) (by omega) (by omega) w
  obtain ⟨f1, f2, f3, f4, f5⟩ := even_facts (b := 2 + r) (D := 1 + s) (by omega) (by omega) (by omega) (by omega) (by omega)
  have q40 := fun w => series_yes (b := 2 + r) (D := 1 + s) (n := S) (by omega) (by omega) (by omega) (by omega) (by omega) hS1 hsm (by omega) w
  rw [hS] at f1 f2 f3 f4 f5 q42
  rw [if_pos hsm] at q42
  obtain ⟨zs, hzs⟩ : ∃ zs, serL (2 + r) (1 + s) S = zs := ⟨_, rfl⟩
  have hzl : zs.length = S := by rw [← hzs, serL_len]
  rw [hzs] at f1 f2 f3 f4 f5 q40
  have hin : ∀ k, k < S → 0 ≤ zs.getD k 0 ∧ zs.getD k 0 < (S : Int) := fun k hk => by
    have h := f1
    unfold okLine at h
    rw [Bool.and_eq_true] at h
    have := List.all_eq_true.1 h.2 _ (getz (zs := zs) (k := k) (by omega))
    simpa using this
  have q16 : ∀ w v, IntsAt w v zs → Calls Try.prog 16 #[.int .i64 S, v] w fun e w' => e = .returned (.tuple #[.agg #[.int .i64 1, .int .i64 S], .int .i64 ((lineW S zs).1.1 : Nat), .bool (lineW S zs).1.2.1, .int .i64 0]) ∧ Below w.heap.size w w' := fun w v hv => by
    have := line_any hv f1
    rw [f2, f3] at this
    exact this
  obtain ⟨t1, ht1⟩ : ∃ t, (lineW S zs).1.1 = t := ⟨_, rfl⟩
  obtain ⟨t2, ht2⟩ : ∃ t, (lineW S zs).1.2.1 = t := ⟨_, rfl⟩
  rw [ht1, ht2] at q16
  rw [show ((2 + r : Nat) : Int) = 2 + (r : Int) by omega, show ((1 + s : Nat) : Int) = 1 + (s : Int) by omega, show ((60 : Nat) : Int) = 60 from rfl] at q42
  rw [show ((2 + r : Nat) : Int) = 2 + (r : Int) by omega, show ((1 + s : Nat) : Int) = 1 + (s : Int) by omega] at q40
  have hS0 : ((S : Int) == 0) = false := by rw [beq_eq_false_iff_ne]; omega
  have hS0' : ¬ S = 0 := by omega
  have heq := eqF 1 (S : Int)
  have hink := Keep.mk hin
  have hf5 := Keep.mk f5
  clear f2 f3 f5 hin hS ht1 ht2
  go_enter Try.func10, Try.ntmps10
  go_wp2_with (first
    | (go_at_call 49; (with_reducible refine (hb _).mono ?_); rintro e w1 ⟨rfl, rfl⟩; clear hb)
    | (go_at_call 49; (with_reducible refine (hd _).mono ?_); rintro e w1 ⟨rfl, rfl⟩; clear hd)
    | (go_at_call 42; (with_reducible refine (q42 _).mono ?_); rintro e w1 ⟨rfl, rfl⟩; clear q42)
    | (go_at_call 40; (with_reducible refine (q40 _).mono ?_); rintro e w2 ⟨v, rfl, hv2, hb2⟩; clear q40
       have hv2k := hv2
       obtain ⟨A, cap, rfl, hcz⟩ := hv2
       rw [hzl] at hcz hv2k ⊢
       clear hcz)
    | (go_at_call 16; (with_reducible refine (q16 _ _ hv2k).mono ?_); rintro e w3 ⟨rfl, hb3⟩
       have hv3 := ints_below (ints_below hv2k hb3) ((Below.refl _ _).alloc (Nat.le_refl _) (.cells #[.int .i64 1, .int .i64 S] 25))
       have hbw3 : Below w1.heap.size w1 (w3.alloc (.cells #[.int .i64 1, .int .i64 S] 25)) := (hb2.trans (hb3.mono hb2.size)).alloc (Nat.le_trans hb2.size hb3.size) _
       clear q16 hv2k hb2 hb3)
    | (go_at_call 24; refine (gaps_any hv3 f1).mono ?_; rintro e w4 ⟨vg, L, rfl, hL, hL60, hvg, hb4⟩
       obtain rfl := f4 L hL
       have hv4 := ints_below hv3 hb4
       have D0 : w4.cell? ⟨w3.heap.size, 0, none⟩ = some (.int .i64 1) := cell_below (by go_simp) hb4
       have D1 : w4.cell? ⟨w3.heap.size, 1, none⟩ = some (.int .i64 S) := cell_below (by go_simp) hb4
       have hbw4 := hbw3.trans (hb4.mono hbw3.size)
       clear hv3 hb4 hL hbw3)
    | (go_at_call 27; refine (ints_any (za := [1]) (zb := [1]) (IntsAt.off (ints_below hvg ((Below.refl _ _).alloc (Nat.le_refl _) _))) (IntsAt.off (own_cellz (own_one w4 w4.heap.size 1 (Nat.le_refl _)))) (by simp)).mono ?_; rintro e w5 ⟨rfl, n5, rfl⟩)
    | (at_make; go_loud (
         refine wpList_make_full _ rfl _ _ 78 rfl (w4.heap.size + 1) 4 i0 (.bool false) 1 ty78 hi hz0 hz1 .i64 .i64 (S : Int) (S : Int) S rfl rfl rfl rfl (by rw [hz2]; omega) (by unfold maxLen; omega) (by simp) ?_
         intro w5 hown5 hgrow5
         have hbw5 : Below w4.heap.size w4 w5 := Below.grown (below_drewN ((Below.refl _ _).alloc (Nat.le_refl _) _) n5) hgrow5 (by show w4.heap.size ≤ (w4.alloc _).heap.size; simp) (by simp)
         have hGl : Keep (BoolsAt w5 (w4.heap.size + 1) S (fun _ => false)) := ⟨bools_start (by simpa using hown5)⟩
         have hs5 : w4.heap.size + 1 ≤ w5.heap.size := by have := hgrow5.size; change (w4.alloc _).heap.size ≤ _ at this; simpa using this
         clear hown5 hgrow5))
    | (go_at_call 19; refine (awake_any _).mono ?_; rintro e w9 ⟨rfl, hb9⟩))
  obtain ⟨G, hG⟩ : ∃ G, G = w4.heap.size + 1 := ⟨_, rfl⟩
  have hbG : Keep (∀ W, Below G w5 W → Below w1.heap.size w1 W) := ⟨fun W h => by
    rw [hG] at h
    exact (hbw4.trans (hbw5.mono hbw4.size)).trans (h.mono (by have := hbw4.size; omega))⟩
  have hcs : Keep (∀ W, Below G w5 W → ∀ k, k < S → ∃ g, A = some ⟨g, 0, none⟩ ∧ W.cell? ⟨g, k, none⟩ = some (.int .i64 (zs.getD k 0))) := ⟨fun W h k hk => by
    obtain ⟨A', cap', he, hc⟩ := hv4
    injection he with he1 he2 he3
    subst he1
    obtain ⟨g, hg, h2⟩ := hc k (by omega)
    refine ⟨g, hg, ?_⟩
    have hgl : g < w4.heap.size := by
      rcases Nat.lt_or_ge g w4.heap.size with h' | h'
      · exact h'
      · simp [World.cell?, Array.getElem?_eq_none h'] at h2
    exact (h.cell (p := ⟨g, k, none⟩) (show g < G by omega)).trans (cell_below h2 hbw5)⟩
  rw [← hG] at hGl
  rw [← hG] at hs5
  rw [← hG]
  clear hG hbw4 hbw5 hv4 hvg D0 D1 heq f4 hL60
  go_loopw [15] (fun i wr => ∃ k : Nat, k ≤ S ∧ i = .int .i64 k ∧ Keep (BoolsAt wr G S (fun x => (zs.take k).contains (x : Int))) ∧ Below G w5 wr) (fun i _ => S - (intOf i).toNat)
  case atStart => exact ⟨0, by omega, rfl, ⟨by simpa using hGl.out⟩, Below.refl _ _⟩
  case round =>
    obtain ⟨k, hk, rfl, hrow, hbw⟩ := hrel
    by_cases hlt : k < S
    · obtain ⟨g, rfl, h1⟩ := hcs.out wr hbw k hlt
      have hz := hink.out k hlt
      have hno := hf5.out k hlt
      have htk := Keep.mk (takez (zs := zs) (k := k) (by omega))
      obtain ⟨q, hq⟩ : ∃ q : Nat, zs.getD k 0 = (q : Int) := ⟨(zs.getD k 0).toNat, by omega⟩
      rw [hq] at h1 hz hno htk
      have hqS : q < S := by omega
      obtain ⟨d1, d2⟩ := hrow.out q hqS
      simp only [show (zs.take k).contains (q : Int) = false by simpa using hno] at d1
      have hnext : Keep (BoolsAt (wr.setCell ⟨G, q, none⟩ (.bool true)) G S (fun x => (zs.take (k + 1)).contains (x : Int))) :=
        ⟨bools_set hrow.out hqS (by rw [htk.out]; simp) (fun j _ hj => by
          rw [htk.out]
          have : ¬ (j : Int) = (q : Int) := by omega
          simp [this])⟩
      clear hq hz hno hrow hGl htk
      go_wp2
      exact ⟨⟨k + 1, by omega, by go_num, hnext, hbw.setCell (p := ⟨G, q, none⟩) (Nat.le_refl _) _⟩, by simp [intOf]; omega⟩
    · go_wp2_with (go_at_call 19; refine (awake_any _).mono ?_; rintro e w9 ⟨rfl, hb9⟩)
      all_goals go_ret
      all_goals exact ⟨rfl, (hbG.out _ hbw).trans (hb9.mono (hbG.out _ hbw).size)⟩
theorem even_any {b d : Int} (w : World) : Calls Try.prog 10 #[.int .i64 b, .int .i64 d] w fun e w' => e = .returned (.bool true) ∧ Below w.heap.size w w' := by
  obtain ⟨r, hr, hb⟩ := mod_val b (m := 15) (by omega) (by omega)
  obtain ⟨s, hs, hd⟩ := mod_val d (m := 5) (by omega) (by omega)
  by_cases h : (2 + r) ^ (1 + s) ≤ 60
  · exact even_some w hr hs rfl h hb hd
  · exact even_zero w hr hs (by omega) hb hd
end Go.Proofs.Ytifbiamfandjnaa

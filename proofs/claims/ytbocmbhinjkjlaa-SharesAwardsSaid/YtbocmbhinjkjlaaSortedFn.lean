/- Fractions in ascending order: Clone, sorted and Sorted of the program; Compare. -/
import Derived.Test.YtbocmbhinjkjlaaSortFn
import Derived.Lib.SliceRun
set_option linter.unusedSimpArgs false
set_option linter.unusedVariables false
namespace Go.Proofs.Ytbocmbhinjkjlaa
open Go Go.Proofs Go.RowKit Go.Seq Go.Sort Go.ChangeShapes Go.WideShapes Go.ChangeAt Go.Joins
theorem fracs_cells {w : World} {A : Option Addr} {n cap : Nat} {l : Pts} (hn : l.length = n) (h : FracsO w (.slice A n cap) l) : (l = [] ∨ ∃ g o, A = some ⟨g, o, none⟩) ∧ ∀ k, k < l.length → ∃ g o, A = some ⟨g, o, none⟩ ∧ w.cell? ⟨g, o + k * 2, none⟩ = some (vz (l.getD k (0, 0)).1) ∧ w.cell? ⟨g, o + k * 2 + 1, none⟩ = some (vz (l.getD k (0, 0)).2) := by
  obtain ⟨A', cap', hv, hc⟩ := h
  injection hv with h1 h2 h3
  subst h1
  refine ⟨?_, hc⟩
  rcases Nat.eq_zero_or_pos l.length with h0 | h0
  · exact .inl (List.eq_nil_of_length_eq_zero h0)
  · obtain ⟨g, o, h, _⟩ := hc 0 h0
    exact .inr ⟨g, o, h⟩
theorem eqNil24 (A : Option Addr) (n c : Nat) (w : World) : (binOp .eql 24 (.slice A n c) (.slice none 0 0)).run Try.prog w = .ok (.bool A.isNone) w := Go.Lib.run_eql_slice_nil w 24 37 A n c 0 0 ty24
theorem own_empty {w : World} {B : Nat} (hB : B ≤ w.heap.size) : (w.alloc (.cells #[] 37)).ownsRow B 37 2 (.slice (some ⟨w.heap.size, 0, none⟩) 0 0) 0 [] :=
  ⟨rfl, .inr ⟨w.heap.size, 0, #[], rfl, hB, BlkAt.new w #[] 37, Nat.le_refl _, Nat.zero_le _, rfl, rfl⟩⟩
set_option maxHeartbeats 1000000 in
set_option maxRecDepth 100000 in
theorem clone_any {v : Value} {l : Pts} {w : World} (hv : FracsO w v l) (hl : l.length ≤ 10) :
    Calls Try.prog 108 #[v] w fun e w' => ∃ v', e = .returned v' ∧ w'.ownsRow w.heap.size 37 2 v' l.length (enc2 l) ∧ Below w.heap.size w w' := by
  obtain ⟨i0, hi, hz0, hz1, hz2⟩ := info_parts info37
  obtain ⟨A, cap, rfl, hc⟩ := hv
  cases A with
  | none =>
    have hl0 : l = [] := by
      rcases Nat.eq_zero_or_pos l.length with h0 | h0
      · exact List.eq_nil_of_length_eq_zero h0
      · obtain ⟨g, o, h, _⟩ := hc 0 h0
        cases h
    subst hl0
    clear hc
    have en := eqNil24
    go_enter Try.func108, Try.ntmps108
    go_wp2
    go_ret
    exact ⟨_, rfl, World.ownsRow_nil _ _ _ _, Below.refl _ _⟩
  | some a =>
    obtain ⟨w1, hw1⟩ : ∃ w1, Keep (w.alloc (.cells #[] 37) = w1) := ⟨_, ⟨rfl⟩⟩
    have hb1 : Below w.heap.size w w1 := by rw [← hw1.out]; exact (Below.refl _ _).alloc (Nat.le_refl _) _
    have ho : w1.ownsRow w.heap.size 37 2 (.slice (some ⟨w.heap.size, 0, none⟩) 0 0) 0 [] := by rw [← hw1.out]; exact own_empty (Nat.le_refl _)
    have hcs : ∀ j u, (enc2 l)[j]? = some u → w1.cell? (a.add j) = some u := by
      rcases Nat.eq_zero_or_pos l.length with h0 | h0
      · rw [List.eq_nil_of_length_eq_zero h0]; intro j u h; simp [enc2] at h
      · obtain ⟨g, o, h, _⟩ := hc 0 h0
        cases h
        have := cells_of_fracs (w := w1) (b := g) (o := o) (m := l.length) (Nat.le_refl _) (fun i hi => by
          obtain ⟨g', o', h, h1, h2⟩ := hc i hi
          cases h
          exact ⟨cell_below h1 hb1, cell_below h2 hb1⟩)
        rwa [List.take_length] at this
    clear hc
    obtain ⟨E, hE⟩ : ∃ E, Keep (enc2 l = E) := ⟨_, ⟨rfl⟩⟩
    have hel : E.length = l.length * 2 := by rw [← hE.out]; exact enc2_len l
    have h1 : ∀ u ∈ E, u.oneCell' = true := by rw [← hE.out]; exact enc2_one l
    rw [hE.out] at hcs ⊢
    generalize l.length = N at *
    clear hE
    have en := eqNil24
    go_enter Try.func108, Try.ntmps108
    go_wp2_with (at_builtin; (try rw [hw1.out]); go_loud (
      refine wpList_append_own _ rfl _ _ 24 rfl w.heap.size 37 i0 (.agg #[.int .i64 0, .int .i64 0]) 2 16 ty24 hi hz0 hz1 hz2 rfl (by decide) _ 0 [] rfl ho a N cap E rfl hel hcs h1 (by unfold maxLen; omega) (by omega) hb1.size ?_
      intro v' w3 hown' hgrow3 hnil3
      have hbw3 : Below w.heap.size w w3 := Below.grown hb1 hgrow3 hb1.size (fun k hk => by cases hk; exact Nat.le_refl _)))
    go_ret
    refine ⟨_, rfl, ?_, hbw3⟩
    simpa using hown'
theorem lift_TT : ∀ (l : Pts), (∀ z ∈ l, okT z = true) → ∃ d : List TT, d.map (·.1) = l
  | [], _ => ⟨[], rfl⟩
  | z :: l, h => by
    obtain ⟨d, hd⟩ := lift_TT l fun y hy => h y (List.mem_cons_of_mem _ hy)
    exact ⟨⟨z, h z (List.mem_cons_self ..)⟩ :: d, by simp [hd]⟩
theorem getD_TT (d : List TT) (k : Nat) (h : k < d.length) : (d.map (·.1)).getD k (0, 0) = (d.toArray[k]!).1 := by
  rw [List.getD_eq_getElem?_getD, List.getElem?_map, List.getElem?_eq_getElem h]
  simp [h]
theorem holds_of_own {w : World} {g n cap B : Nat} {d : List TT} (h : w.ownsRow B 37 2 (.slice (some ⟨g, 0, none⟩) n cap) d.length (enc2 (d.map (·.1)))) : n = d.length ∧ B ≤ g ∧ g < w.heap.size ∧ HoldsK encT 2 w g 0 d.toArray := by
  obtain ⟨h1, h2⟩ := h
  rcases h2 with ⟨h, _⟩ | ⟨g', cap', cur, hv, hg, hh, hn, hcap, hsz, htake⟩
  · cases h
  · injection hv with e1 e2 e3
    injection e1 with e1
    injection e1 with e1
    subst e1
    refine ⟨e2, hg, (Array.getElem?_eq_some_iff.1 hh).1, fun j hj => ⟨?_, by simp [World.frozen?, hh]⟩⟩
    rw [size_flatK] at hj
    have hj' : j < d.length * 2 := by simpa using hj
    have hk : j / 2 < d.length := by omega
    have e := enc2_at (d.map (·.1)) (k := j / 2) (by simpa using hk)
    rw [getD_TT d _ hk] at e
    have ht : (cur.toList.take (d.length * 2))[j]? = (enc2 (d.map (·.1)))[j]? := by rw [htake]
    rw [List.getElem?_take_of_lt hj', Array.getElem?_toList] at ht
    rw [Nat.zero_add]
    simp only [World.cell?, hh, id]
    rw [get_flatK _ _ _ _ hj]
    rcases Nat.mod_two_eq_zero_or_one j with h | h
    · have e0 : j / 2 * 2 = j := by omega
      rw [e0] at e
      rw [h, ht, e.1]; rfl
    · have e0 : j / 2 * 2 + 1 = j := by omega
      rw [e0] at e
      rw [h, ht, e.2]; rfl
theorem fracs_of_holds {w : World} {g cap : Nat} {d : Array TT} (h : HoldsK encT 2 w g 0 d) : FracsO w (.slice (some ⟨g, 0, none⟩) d.size cap) (d.toList.map (·.1)) := by
  refine ⟨_, cap, by simp, fun k hk => ⟨g, 0, rfl, ?_, ?_⟩⟩
  · have hk' : k < d.toList.length := by simpa using hk
    have hk2 : k < d.size := by simpa using hk
    obtain ⟨c, _⟩ := h (k * 2) (by rw [size_flatK]; omega)
    rw [get_flatK _ _ _ _ (by omega)] at c
    rw [c, getD_TT _ _ hk']
    have e1 : k * 2 / 2 = k := by omega
    have e2 : k * 2 % 2 = 0 := by omega
    rw [e1, e2]; rfl
  · have hk' : k < d.toList.length := by simpa using hk
    have hk2 : k < d.size := by simpa using hk
    obtain ⟨c, _⟩ := h (k * 2 + 1) (by rw [size_flatK]; omega)
    rw [get_flatK _ _ _ _ (by omega)] at c
    rw [Nat.add_assoc, c, getD_TT _ _ hk']
    have e1 : (k * 2 + 1) / 2 = k := by omega
    have e2 : (k * 2 + 1) % 2 = 1 := by omega
    rw [e1, e2]; rfl
/-- o is l in ascending order. -/
structure Asc (l o : Pts) : Prop where
  perm : o.Perm l
  ord : ∀ i j, i < j → j < o.length → ¬ (o.getD j (0, 0)).1 * (o.getD i (0, 0)).2 < (o.getD i (0, 0)).1 * (o.getD j (0, 0)).2
theorem asc_sorted (d : List TT) : Asc (d.map (·.1)) ((insertionSort (ltOf cfT) d.toArray 0 d.toArray.size).toList.map (·.1)) := by
  obtain ⟨⟨p1, _, p3⟩, so⟩ := insertionSort_holds swoT d.toArray 0 d.toArray.size (Nat.zero_le _) (Nat.le_refl _)
  generalize insertionSort (ltOf cfT) d.toArray 0 d.toArray.size = d' at *
  refine ⟨?_, fun i j hij hj => ?_⟩
  · have e1 : (d'.extract 0 d.toArray.size).toList = d'.toList := by rw [← p1]; simp
    have e2 : (d.toArray.extract 0 d.toArray.size).toList = d := by simp
    rw [e1, e2] at p3
    exact p3.map _
  · have hj' : j < d'.toList.length := by simpa using hj
    have hs : j < d.toArray.size := by rw [← p1]; simpa using hj'
    have := so i j (Nat.zero_le _) hij hs
    rw [getD_TT _ _ hj', getD_TT _ _ (by omega)]
    intro h
    have h2 := (ltT_iff d'[j]! d'[i]!).2 (by simpa using h)
    rw [this] at h2; cases h2
set_option maxHeartbeats 1000000 in
set_option maxRecDepth 100000 in
theorem sorted_any {v : Value} {l : Pts} {w : World} (hv : FracsO w v l) (hl : l.length ≤ 10) (hok : ∀ z ∈ l, okT z = true) :
    Calls Try.prog 86 #[v, .func (.func 87) #[] #[]] w fun e w' => ∃ v' o, e = .returned v' ∧ FracsO w' v' o ∧ Asc l o ∧ Below w.heap.size w w' := by
  have q108 := clone_any hv hl
  obtain ⟨d, rfl⟩ := lift_TT l hok
  have hdl : d.length ≤ 10 := by simpa using hl
  have hasc := asc_sorted d
  have q109 : ∀ w1 v1, w1.ownsRow w.heap.size 37 2 v1 (d.map (·.1)).length (enc2 (d.map (·.1))) → Below w.heap.size w w1 → Calls Try.prog 109 #[v1, .func (.func 87) #[] #[]] w1 fun e w' => e = .returned (.tuple #[]) ∧ ∃ o, FracsO w' v1 o ∧ Asc (d.map (·.1)) o ∧ Below w.heap.size w w' := fun w1 v1 ho hb => by
    rw [List.length_map] at ho
    have ho' := ho
    rcases ho.2 with ⟨rfl, h0⟩ | ⟨g, cap, cur, rfl, _⟩
    · have hd0 : d = [] := List.eq_nil_of_length_eq_zero h0
      subst hd0
      refine (stable_none none 0 _ w1).mono ?_
      rintro e w' ⟨rfl, rfl⟩
      exact ⟨rfl, [], ⟨none, 0, rfl, fun k hk => by simp at hk⟩, ⟨.refl _, fun i j _ hj => by simp at hj⟩, hb⟩
    · obtain ⟨_, hBg, hg, hH⟩ := holds_of_own ho'
      have := stable_any (cap := cap) hH hg (by simpa using hdl)
      rw [show d.toArray.size = d.length by simp] at this
      refine this.mono ?_
      rintro e w' ⟨rfl, hh, hgr⟩
      have hf := fracs_of_holds (cap := cap) hh
      have hsz : (insertionSort (ltOf cfT) d.toArray 0 d.length).size = d.length := by
        have := (insertionSort_holds swoT d.toArray 0 d.toArray.size (Nat.zero_le _) (Nat.le_refl _)).1.1
        simpa using this
      rw [hsz] at hf
      rw [show d.toArray.size = d.length by simp] at hasc
      exact ⟨rfl, _, hf, hasc, hb.grown hgr hb.size (fun j hj => by cases hj; exact hBg)⟩
  generalize d.map (·.1) = l at *
  clear hv hok hl hdl hasc
  go_enter Try.func86, Try.ntmps86
  go_wp2_with (first
    | (go_at_call 108; (with_reducible refine q108.mono ?_); rintro e w1 ⟨v1, rfl, ho, hb⟩)
    | (go_at_call 109; (with_reducible refine (q109 _ _ ho hb).mono ?_); rintro e w2 ⟨rfl, o, hf, ha, hb2⟩))
  go_ret
  exact ⟨v1, o, rfl, hf, ha, hb2⟩
set_option maxHeartbeats 1000000 in
set_option maxRecDepth 100000 in
theorem sortedFn_yes {v : Value} {l : Pts} {w : World} (hv : FracsO w v l) (hw : Wide l) (hD : okTs l = true) :
    Calls Try.prog 50 #[v] w fun e w' => ∃ v' o, e = .returned (.tuple #[v', .int .i64 0]) ∧ FracsO w' v' o ∧ Asc l o ∧ Below w.heap.size w w' := by
  obtain ⟨hl, hok⟩ := of_decide_eq_true hD
  have q83 := areTerms_any hv hw (by omega)
  rw [hD] at q83
  have q86 := fun w1 (hb : Below w.heap.size w w1) => sorted_any (fracsO_below hv hb) hl hok
  clear hv hw hD hl hok
  go_enter Try.func50, Try.ntmps50
  go_wp2_with (first
    | (go_at_call 83; (with_reducible refine q83.mono ?_); rintro e w1 ⟨rfl, hb⟩)
    | (go_at_call 86; (with_reducible refine (q86 _ hb).mono ?_); rintro e w2 ⟨v2, o, rfl, hf, ha, hb2⟩))
  go_ret2
  exact ⟨v2, o, rfl, hf, ha, hb.trans (hb2.mono hb.size)⟩
set_option maxRecDepth 100000 in
theorem sortedFn_no {v : Value} {l : Pts} {w : World} (hv : FracsO w v l) (hw : Wide l) (hlen : l.length ≤ 1000) (hD : okTs l = false) :
    Calls Try.prog 50 #[v] w fun e w' => e = .returned (.tuple #[.slice none 0 0, .int .i64 2]) ∧ Below w.heap.size w w' := by
  have q83 := areTerms_any hv hw hlen
  rw [hD] at q83
  clear hv hw hD
  go_enter Try.func50, Try.ntmps50
  go_wp2_with (go_at_call 83; (with_reducible refine q83.mono ?_); rintro e w1 ⟨rfl, hb⟩)
  go_ret2
  exact ⟨rfl, hb⟩
end Go.Proofs.Ytbocmbhinjkjlaa

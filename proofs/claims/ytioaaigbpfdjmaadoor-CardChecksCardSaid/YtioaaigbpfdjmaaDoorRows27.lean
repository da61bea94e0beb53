import Derived.Test.YtioaaigbpfdjmaaDoorCopy
import Derived.Test.YtioaaigbpfdjmaaDoorWeigh
set_option linter.unusedSimpArgs false
set_option linter.unusedVariables false
namespace Go.Proofs.YtioaaigbpfdjmaaDoor
open Go Go.Proofs Go.RowKit
theorem ty55 : Tryd.prog.underlying 55 = some (.slice 27) := by kernel_rfl
theorem info27 : (Tryd.prog.info? 27).map (fun i => (i.zero, i.size, i.bytes)) = some (some (.slice none 0 0), 1, 24) := by kernel_rfl
theorem argi_below {w w' : World} {v : Value} {zs : List Int} (h : ArgInts w v zs) (b : Below w.heap.size w w') : ArgInts w' v zs := by
  rcases h with h | h | ⟨g, o, cap, hv, h1, h2, h3, h4⟩
  · exact .inl h
  · exact .inr (.inl h)
  · exact .inr (.inr ⟨g, o, cap, hv, h1, h2, Nat.lt_of_lt_of_le h3 b.size, fun i hi => by rw [b.cell (p := ⟨g, o + i, none⟩) h3]; exact h4 i hi⟩)
/-- A list of lists that came in. -/
def ArgLists (w : World) (v : Value) (ls : List (List Int)) : Prop :=
  ∃ A cap, v = .slice A ls.length cap ∧ ∀ k, k < ls.length → ∃ b o u, A = some ⟨b, o, none⟩ ∧ w.cell? ⟨b, o + k, none⟩ = some u ∧ ArgInts w u (ls.getD k [])
/-- A list of lists in memory. -/
def ListsAt (w : World) (v : Value) (ls : List (List Int)) : Prop :=
  ∃ A cap, v = .slice A ls.length cap ∧ ∀ k, k < ls.length → ∃ g u, A = some ⟨g, 0, none⟩ ∧ w.cell? ⟨g, k, none⟩ = some u ∧ IntsAt w u (ls.getD k []) ∧ CapOK u
theorem lists_below {w w' : World} {v : Value} {ls : List (List Int)} (h : ListsAt w v ls) (b : Below w.heap.size w w') : ListsAt w' v ls := by
  obtain ⟨A, cap, hv, hc⟩ := h
  refine ⟨A, cap, hv, fun k hk => ?_⟩
  obtain ⟨g, u, hA, hg, hu, hcu⟩ := hc k hk
  exact ⟨g, u, hA, cell_below hg b, ints_below hu b, hcu⟩
theorem own_cellu {w : World} {B e n : Nat} {v : Value} {us : List Value} (h : w.ownsRow B e 1 v n us) (hl : us.length = n) :
    ∃ A cap, v = .slice A n cap ∧ ∀ k, k < n → ∃ g, A = some ⟨g, 0, none⟩ ∧ w.cell? ⟨g, k, none⟩ = some (us.getD k undef) := by
  obtain ⟨h1, h2⟩ := h
  rcases h2 with ⟨rfl, h0⟩ | ⟨g, cap, cur, rfl, hg, hh, hn, hcap, hsz, htake⟩
  · exact ⟨none, 0, by rw [h0], fun k hk => by omega⟩
  · refine ⟨_, cap, rfl, fun k hk => ⟨g, rfl, ?_⟩⟩
    have : cur[k]? = some (us.getD k undef) := by
      have e : (cur.toList.take (n * 1))[k]? = us[k]? := by rw [htake]
      rw [List.getElem?_take_of_lt (by omega), List.getElem?_eq_getElem (show k < us.length by omega)] at e
      rw [← Array.getElem?_toList, e]
      simp [List.getD, show k < us.length by omega]
    simp [World.cell?, hh, this]
def cut3 (ls : List (List Int)) : List (List Int) := (ls.take 3).map (·.take 1001)
theorem cut3_len (ls : List (List Int)) : (cut3 ls).length = min 3 ls.length := by simp [cut3]
theorem cut3_get {ls : List (List Int)} {k : Nat} (h : k < 3) (h2 : k < ls.length) : (cut3 ls).getD k [] = (ls.getD k []).take 1001 := by
  rw [List.getD_eq_getElem?_getD, List.getD_eq_getElem?_getD, cut3, List.getElem?_map, List.getElem?_take_of_lt h, List.getElem?_eq_getElem h2]
  rfl
def RowsOf (w : World) (B : Nat) (us : List Value) (ls : List (List Int)) : Prop := ∀ k, k < us.length → w.ownsRow B 3 1 (us.getD k undef) (ls.getD k []).length ((ls.getD k []).map vz)
theorem rows_below {w w' : World} {B : Nat} {us : List Value} {ls : List (List Int)} (h : RowsOf w B us ls) (b : Below w.heap.size w w') : RowsOf w' B us ls := fun k hk => own_below (h k hk) b
theorem own_ne {w : World} {B B' e e' n n' : Nat} {v v' : Value} {xs ys : List Value} (h : w.ownsRow B e 1 v n xs) (h' : w.ownsRow B' e' 1 v' n' ys) (he : e ≠ e') : v.ownBlock = none ∨ v.ownBlock ≠ v'.ownBlock := by
  rcases h.2 with ⟨rfl, _⟩ | ⟨g, cap, cur, rfl, _, hg, _⟩
  · exact .inl rfl
  · rcases h'.2 with ⟨rfl, _⟩ | ⟨g', cap', cur', rfl, _, hg', _⟩
    · exact .inr (by simp [Value.ownBlock])
    · refine .inr fun hc => ?_
      simp only [Value.ownBlock, Option.some.injEq] at hc
      subst hc
      rw [hg] at hg'
      injection hg' with h1
      injection h1 with _ h2
      exact he h2
theorem rows_grown {w w' : World} {B B' n : Nat} {us ys : List Value} {ls : List (List Int)} {a : Value} (h : RowsOf w B us ls) (ha : w.ownsRow B' 27 1 a n ys) (hg : w.grownBy w' a.ownBlock) : RowsOf w' B us ls :=
  fun k hk => (h k hk).kept hg (own_ne (h k hk) ha (by decide))
theorem rows_push {w : World} {B : Nat} {us : List Value} {ls : List (List Int)} {u : Value} (h : RowsOf w B us ls) (hu : w.ownsRow B 3 1 u (ls.getD us.length []).length ((ls.getD us.length []).map vz)) : RowsOf w B (us ++ [u]) ls := by
  intro k hk
  rw [List.length_append, List.length_singleton] at hk
  by_cases e : k = us.length
  · subst e
    rw [List.getD_eq_getElem?_getD, List.getElem?_append_right (by omega)]
    simpa using hu
  · have := h k (by omega)
    rw [List.getD_eq_getElem?_getD, List.getElem?_append_left (by omega), ← List.getD_eq_getElem?_getD]
    exact this
theorem rows_lists {w : World} {B B' n : Nat} {v : Value} {us : List Value} {ls : List (List Int)} (h : RowsOf w B us ls) (hv : w.ownsRow B' 27 1 v n us) (hu : us.length = n) (hl : ls.length = n) : ListsAt w v ls := by
  obtain ⟨A, cap, hv, hc⟩ := own_cellu hv hu
  refine ⟨A, cap, by rw [hl]; exact hv, fun k hk => ?_⟩
  obtain ⟨g, hA, hg⟩ := hc k (by omega)
  have := h k (by omega)
  exact ⟨g, _, hA, hg, own_cellz this, cap_own this⟩
theorem own_base {w : World} {B B' e n : Nat} {v : Value} {xs : List Value} (h : w.ownsRow B e 1 v n xs) (hB : B' ≤ B) : w.ownsRow B' e 1 v n xs := by
  refine ⟨h.1, ?_⟩
  rcases h.2 with h2 | ⟨g, cap, cur, h1, h2, h3⟩
  · exact .inl h2
  · exact .inr ⟨g, cap, cur, h1, Nat.le_trans hB h2, h3⟩
set_option maxHeartbeats 1000000 in
set_option maxRecDepth 100000 in
theorem lists_any {v : Value} {ls : List (List Int)} {w : World} (hv : ArgLists w v ls) :
    Calls Tryd.prog 48 #[v] w fun e w' => ∃ v', e = .returned v' ∧ ListsAt w' v' (cut3 ls) ∧ Below w.heap.size w w' := by
  obtain ⟨i0, hi, hz0, hz1, hz2⟩ := info_parts info27
  obtain ⟨A, cap, rfl, hc⟩ := hv
  go_enter Tryd.func48, Tryd.ntmps48
  go_wp2
  go_loopw [3, 4] (fun a0 i wr => ∃ (k : Nat) (us : List Value) (a : Value), a = a0 ∧ k ≤ ls.length ∧ k ≤ 3 ∧ i = .int .i64 k ∧ us.length = k ∧ wr.ownsRow w.heap.size 27 1 a k us ∧ RowsOf wr w.heap.size us (cut3 ls) ∧ Below w.heap.size w wr) (fun _ i _ => 3 - (intOf i).toNat)
  case atStart => exact ⟨0, [], _, rfl, by omega, by omega, rfl, rfl, World.ownsRow_nil _ _ _ _, fun k hk => by simp at hk, Below.refl _ _⟩
  case round =>
    obtain ⟨k, us, a, rfl, hk, hk3, rfl, hul, hown, hrows, hbw⟩ := hrel
    by_cases hlt : k < ls.length
    · by_cases h3 : k < 3
      · obtain ⟨b, o, u, rfl, hg, hu⟩ := hc k hlt
        have hgr := cell_below hg hbw
        have hget : Keep ((cut3 ls).getD k [] = (ls.getD k []).take 1001) := ⟨cut3_get h3 hlt⟩
        have hulk : Keep (us.length = k) := ⟨hul⟩
        have hbz : w.heap.size ≤ wr.heap.size := hbw.size
        have hrowk : Keep (RowsOf wr w.heap.size us (cut3 ls)) := ⟨hrows⟩
        have hownk : Keep (wr.ownsRow w.heap.size 27 1 a k us) := ⟨hown⟩
        clear hul hrows hown
        go_wp2_with (first
          | (go_at_call 47; refine (copy_any (argi_below hu hbw)).mono ?_; rintro e w2 ⟨a2, rfl, hown2, hb2⟩
             obtain ⟨A2, l2, c2, rfl, hcl2⟩ := cap_own hown2
             have hbw2 : Below w.heap.size w w2 := below_trans hbw hb2 hbz
             have hown3 : w2.ownsRow w.heap.size 27 1 a k us := own_below hownk.out hb2
             have hrow3 : Keep (RowsOf w2 w.heap.size us (cut3 ls)) := ⟨rows_below hrowk.out hb2⟩
             have hnew : Keep (w2.ownsRow w.heap.size 3 1 (.slice A2 l2 c2) ((cut3 ls).getD k []).length (((cut3 ls).getD k []).map vz)) := ⟨by rw [hget.out]; exact own_base hown2 hbz⟩
             have hz2' : w.heap.size ≤ w2.heap.size := hbw2.size
             clear hownk hrowk hown2 hb2)
          | (at_builtin; go_loud (
             refine wpList_append_own _ rfl _ _ 55 rfl w.heap.size 27 i0 (.slice none 0 0) 1 24 ty55 hi hz0 hz1 hz2 rfl (by decide) _ _ _ rfl (hown3.alloc _) ⟨w2.heap.size, 0, none⟩ 1 1 [.slice A2 l2 c2] rfl rfl (cell_one_new _ _ _) (fun x hx => by simp at hx; subst hx; rfl) (by unfold maxLen; omega) (by omega) (by simp; omega) ?_
             intro v' w3 hown' hgrow3 hnil3
             have hb3 : Below w.heap.size w w3 := Below.grown (hbw2.alloc hz2' _) hgrow3 (by simp; omega) (fun j hj => by have := (hown3.lt _ hj).1; omega)
             have X : Side (w3.ownsRow w.heap.size 27 1 v' (k + 1) (us ++ [.slice A2 l2 c2]) ∧ RowsOf w3 w.heap.size (us ++ [.slice A2 l2 c2]) (cut3 ls) ∧ Below w.heap.size w w3) :=
               ⟨⟨hown', rows_grown (rows_below (rows_push hrow3.out (by rw [hulk.out]; exact hnew.out)) ((Below.refl _ _).alloc (Nat.le_refl _) _)) (hown3.alloc _) hgrow3, hb3⟩⟩
             clear hown' hgrow3 hnil3 hb3 hown3)))
        obtain ⟨q1, q2, q3⟩ := X.out
        exact ⟨⟨k + 1, us ++ [.slice A2 l2 c2], _, rfl, by omega, by omega, by go_num, by simp [hulk.out], q1, q2, q3⟩, by simp [intOf]; omega⟩
      · have : k = 3 := by omega
        subst this
        go_wp2
        go_ret
        exact ⟨_, rfl, rows_lists hrows hown hul (by rw [cut3_len]; omega), hbw⟩
    · have : k = ls.length := by omega
      subst this
      go_wp2
      go_ret
      exact ⟨_, rfl, rows_lists hrows hown hul (by rw [cut3_len]; omega), hbw⟩
end Go.Proofs.YtioaaigbpfdjmaaDoor

/- Claims and an estate out of any list: tame of the law. -/
import Derived.Test.YtbocmbhinjkjlaaIntSort
import Derived.Test.YtbocmbhinjkjlaaTameFn
set_option linter.unusedSimpArgs false
set_option linter.unusedVariables false
namespace Go.Proofs.Ytbocmbhinjkjlaa
open Go Go.Proofs Go.RowKit Go.Seq Go.ChangeShapes Go.WideShapes Go.ChangeAt Go.Joins
def tamed (zs : List Int) : List Int := (zs.take 10).map fun z => ((modN z 1001 : Nat) : Int)
theorem mod_bI (x : Int) {m : Nat} (h1 : 1 ≤ m) (h2 : m ≤ 1000000000) (w : World) : Calls Try.prog 57 #[.int .i64 x, .int .i64 m] w fun e w' => e = .returned (.int .i64 (modN x m : Nat)) ∧ Below w.heap.size w w' :=
  (mod_any x h1 h2 w).mono fun e w' h => ⟨h.1, by rw [h.2]; exact Below.refl _ _⟩
theorem own_shapeI {W : World} {B n : Nat} {v : Value} {xs : List Value} (h : W.ownsRow B 3 1 v n xs) : ∃ C c, v = .slice C n c := by
  rcases h.2 with ⟨rfl, rfl⟩ | ⟨g, cap, cur, rfl, _⟩
  · exact ⟨none, 0, rfl⟩
  · exact ⟨_, cap, rfl⟩
theorem own_afterI {W W' : World} {B n : Nat} {v : Value} {xs : List Value} (h : W.ownsRow B 3 1 v n xs) (hb : Below W.heap.size W W') : W'.ownsRow B 3 1 v n xs := by
  obtain ⟨h1, h2⟩ := h
  refine ⟨h1, ?_⟩
  rcases h2 with h | ⟨g, cap, cur, hv, hg, hh, r⟩
  · exact .inl h
  · exact .inr ⟨g, cap, cur, hv, hg, (hb.block _ (Array.getElem?_eq_some_iff.1 hh).1).trans hh, r⟩
theorem alloc_cell1 (W : World) (n : Int) : ∀ j u, ([.int .i64 n] : List Value)[j]? = some u → (W.alloc (.cells #[.int .i64 n] 3)).cell? ((⟨W.heap.size, 0, none⟩ : Addr).add j) = some u := by
  intro j u hj
  rw [plain_add, Nat.zero_add, (BlkAt.new W #[.int .i64 n] 3).cell]
  match j, hj with
  | 0, hj => simpa using hj
  | j + 1, hj => simp at hj
theorem map_take {zs : List Int} {f : Int → Int} {k : Nat} (h : k < zs.length) : (zs.take (k + 1)).map f = (zs.take k).map f ++ [f (zs.getD k 0)] := by
  rw [takez h, List.map_append]; rfl
set_option maxHeartbeats 4000000 in
set_option maxRecDepth 100000 in
theorem tame_any {v : Value} {zs : List Int} {E : Int} {w : World} (hv : IntsO w v zs) (hne : 1 ≤ zs.length) :
    Calls Try.prog 55 #[v, .int .i64 E] w fun e w' => ∃ v', e = .returned (.tuple #[v', .int .i64 (modN E ((tamed zs).sum.toNat + 1) : Nat)]) ∧ w'.ownsRow w.heap.size 3 1 v' (tamed zs).length ((tamed zs).map vz) ∧ Below w.heap.size w w' := by
  obtain ⟨i0, hi, hz0, hz1, hz2⟩ := info_parts info3
  obtain ⟨A, cap, rfl, hcell⟩ := hv
  have hcK := Keep.mk hcell
  obtain ⟨w1, hw1⟩ : ∃ w1, Keep (w.alloc (.cells #[] 3) = w1) := ⟨_, ⟨rfl⟩⟩
  have hb1 : Below w.heap.size w w1 := by rw [← hw1.out]; exact (Below.refl _ _).alloc (Nat.le_refl _) _
  have ho : w1.ownsRow w.heap.size 3 1 (.slice (some ⟨w.heap.size, 0, none⟩) 0 0) 0 [] := by rw [← hw1.out]; exact own_empty3 (Nat.le_refl _)
  clear hcell
  go_enter Try.func55, Try.ntmps55
  go_wp2
  try rw [hw1.out]
  go_loopw [6, 7, 8] (fun s t i wr => ∃ k : Nat, ∃ cs : List Int, k ≤ 10 ∧ k ≤ zs.length ∧ i = .int .i64 k ∧ Keep (cs = (zs.take k).map fun z => ((modN z 1001 : Nat) : Int)) ∧ t = .int .i64 cs.sum ∧ Keep (cs.length = k) ∧ (∃ C c, s = .slice C cs.length c) ∧ Keep (wr.ownsRow w.heap.size 3 1 s cs.length (cs.map vz)) ∧ Below w.heap.size w wr) (fun _ _ i _ => 11 - (intOf i).toNat)
  case atStart => exact ⟨0, [], by omega, by omega, rfl, ⟨by simp⟩, rfl, ⟨rfl⟩, ⟨_, _, rfl⟩, ⟨ho⟩, hb1⟩
  case round =>
    obtain ⟨k, cs, hk10, hkl, rfl, hcs, rfl, hcl, ⟨C, c, rfl⟩, hown, hbw⟩ := hrel
    have hbz := hbw.size
    by_cases hgo : k < zs.length ∧ k < 10
    · obtain ⟨h1, h2⟩ := hgo
      have h2' : (k : Int) < 10 := by omega
      obtain ⟨g, o, rfl, hz⟩ := hcK.out k h1
      have hz := cell_below hz hbw
      have q57 := fun w => mod_bI (zs.getD k 0) (m := 1001) (by omega) (by omega) w
      rw [show (((1001 : Nat)) : Int) = 1001 from rfl] at q57
      have hlt := modN_lt (zs.getD k 0) (m := 1001) (by omega)
      have hcs2 := map_take (f := fun z => ((modN z 1001 : Nat) : Int)) h1
      rw [← hcs.out] at hcs2
      generalize zs.getD k 0 = z at *
      generalize modN z 1001 = m at *
      have hcs2K := Keep.mk hcs2
      have hsum : 0 ≤ cs.sum ∧ cs.sum ≤ 1000 * (k : Int) := by
        have := sum_bound (zs := cs) (fun y hy => by
          rw [hcs.out] at hy
          obtain ⟨x, _, rfl⟩ := List.mem_map.1 hy
          have := modN_lt x (m := 1001) (by omega)
          omega) k
        rwa [List.take_of_length_le (by have := hcl.out; omega)] at this
      have hsum2 : Keep ((cs ++ [(m : Int)]).sum = cs.sum + m) := ⟨by simp⟩
      obtain ⟨S, hS⟩ : ∃ S, Keep (cs.sum = S) := ⟨_, ⟨rfl⟩⟩
      rw [hS.out] at hsum hsum2 ⊢
      have wS : IntKind.i64.wrap (S + (m : Int)) = S + (m : Int) := IntWalk.i64_in _ (by omega)
      have hcl10 : cs.length ≤ 10 := by have := hcl.out; omega
      clear hcs2 hsum
      go_wp2_with (first
        | (go_at_call 57; (with_reducible refine (q57 _).mono ?_); rintro e w5 ⟨rfl, hb5⟩
           have hown5 := own_afterI (own_afterI hown.out hb5) ((Below.refl w5.heap.size w5).alloc (Nat.le_refl _) (.cells #[.int .i64 (m : Nat)] 3))
           have hnews5 := alloc_cell1 w5 (m : Nat)
           have hb05 := hbw.trans (hb5.mono hbz)
           have hsz5 : w.heap.size ≤ (w5.alloc (.cells #[.int .i64 (m : Nat)] 3)).heap.size := by have := hb05.size; simp; omega
           have hbA5 := hb05.alloc hb05.size (.cells #[.int .i64 (m : Nat)] 3)
           clear hb5)
        | (at_builtin; go_loud (
           refine wpList_append_own _ rfl _ _ 23 rfl w.heap.size 3 i0 (.int .i64 0) 1 8 ty23 hi hz0 hz1 hz2 rfl (by decide) _ cs.length (cs.map vz) rfl hown5 ⟨w5.heap.size, 0, none⟩ 1 1 [.int .i64 (m : Nat)] rfl rfl hnews5 (fun u hu => by simp only [List.mem_cons, List.not_mem_nil, or_false] at hu; subst hu; rfl) (by unfold maxLen; omega) (by omega) hsz5 ?_
           intro v' w3 hown' hgrow3 hnil3
           have hbw3 : Below w.heap.size w w3 := hbA5.grown hgrow3 hsz5 (fun q hq => by
             rcases hown5.2 with ⟨h, _⟩ | ⟨gg, cc, cur, hh, hg', _⟩
             · injection h with h1 _ _; subst h1; cases hq
             · injection hh with h1 _ _; subst h1; cases hq; exact hg')
           have hmap : (cs.map vz) ++ [.int .i64 (m : Nat)] = (cs ++ [(m : Int)]).map vz := by simp [vz]
           rw [hmap] at hown'
           have hown6 : w3.ownsRow w.heap.size 3 1 v' (cs ++ [(m : Int)]).length ((cs ++ [(m : Int)]).map vz) := by rw [List.length_append]; exact hown'
           obtain ⟨A6, c6, hv6, hc6⟩ := own_ints hown6
           obtain ⟨g6, o6, hA6, hz6⟩ := hc6 k (by rw [List.length_append]; have := hcl.out; simp; omega)
           have hget : (cs ++ [(m : Int)]).getD k 0 = (m : Int) := by
             rw [List.getD_eq_getElem?_getD, List.getElem?_append_right (by have := hcl.out; omega), hcl.out]; simp
           rw [hget] at hz6
           rw [List.length_append] at hv6
           subst hA6
           subst hv6
           have hk6 : k < cs.length + 1 := by have := hcl.out; omega
           have hk6' : (k : Int) < (cs.length : Int) + 1 := by omega
           have hownK := Keep.mk hown6
           clear hown' hown6 hc6 hget hmap)))
      exact ⟨⟨k + 1, cs ++ [(m : Int)], by omega, by omega, by go_num, ⟨hcs2K.out.symm⟩, by rw [hsum2.out], ⟨by rw [List.length_append, hcl.out]; rfl⟩, ⟨_, c6, by rw [List.length_append]; rfl⟩, hownK, hbw3⟩, by simp [intOf]; omega⟩
    · have hk1 : 1 ≤ k := by omega
      have hct : Keep (cs = tamed zs) := ⟨by
        rw [hcs.out]
        unfold tamed
        congr 1
        rcases Nat.lt_or_ge k zs.length with h | h
        · rw [show k = 10 by omega]
        · rw [List.take_of_length_le h, List.take_of_length_le (by omega)]⟩
      have hsum : 0 ≤ cs.sum ∧ cs.sum ≤ 1000 * (k : Int) := by
        have := sum_bound (zs := cs) (fun y hy => by
          rw [hcs.out] at hy
          obtain ⟨x, _, rfl⟩ := List.mem_map.1 hy
          have := modN_lt x (m := 1001) (by omega)
          omega) k
        rwa [List.take_of_length_le (by have := hcl.out; omega)] at this
      have hres : Keep (modN E ((tamed zs).sum.toNat + 1) = modN E (cs.sum.toNat + 1)) := ⟨by rw [hct.out]⟩
      have q57 := fun w => mod_bI E (m := cs.sum.toNat + 1) (by omega) (by omega) w
      obtain ⟨S, hS⟩ : ∃ S : Nat, Keep (cs.sum.toNat = S) := ⟨_, ⟨rfl⟩⟩
      have hS2 : cs.sum = (S : Int) := by have := hS.out; omega
      rw [hS.out] at q57 hres
      rw [hS2] at hsum ⊢
      rw [show (((S + 1 : Nat)) : Int) = (S : Int) + 1 by omega] at q57
      have wS : IntKind.i64.wrap ((S : Int) + 1) = (S : Int) + 1 := IntWalk.i64_in _ (by omega)
      obtain ⟨R, hR⟩ : ∃ R, Keep (modN E (S + 1) = R) := ⟨_, ⟨rfl⟩⟩
      rw [hR.out] at q57 hres
      have hl0 : ¬ cs.length = 0 := by have := hcl.out; omega
      have hl0' : ¬ (cs.length : Int) = 0 := by omega
      have fin : ∀ W, Below wr.heap.size wr W → ∃ v', (Ending.returned (.tuple #[.slice C cs.length c, .int .i64 (R : Nat)]) : Ending) = .returned (.tuple #[v', .int .i64 (modN E ((tamed zs).sum.toNat + 1) : Nat)]) ∧ W.ownsRow w.heap.size 3 1 v' (tamed zs).length ((tamed zs).map vz) ∧ Below w.heap.size w W := fun W hb => ⟨_, by rw [hres.out], by rw [← hct.out]; exact own_afterI hown.out hb, hbw.trans (hb.mono hbz)⟩
      clear hsum hcs hcl hct hown hres hS hS2 hR hcK
      by_cases h1 : k < zs.length
      · have h2' : ¬ (k : Int) < 10 := by omega
        go_wp2_with (go_at_call 57; (with_reducible refine (q57 _).mono ?_); rintro e w5 ⟨rfl, hb5⟩)
        go_ret2
        exact fin _ hb5
      · have h1' : ¬ (k : Int) < (zs.length : Int) := by omega
        go_wp2_with (go_at_call 57; (with_reducible refine (q57 _).mono ?_); rintro e w5 ⟨rfl, hb5⟩)
        go_ret2
        exact fin _ hb5
end Go.Proofs.Ytbocmbhinjkjlaa

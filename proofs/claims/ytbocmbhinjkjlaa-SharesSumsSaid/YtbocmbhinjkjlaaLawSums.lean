/- The law SharesSums: its walk. -/
import Derived.Test.YtbocmbhinjkjlaaApReg
set_option linter.unusedSimpArgs false
set_option linter.unusedVariables false
namespace Go.Proofs.Ytbocmbhinjkjlaa
open Go Go.Proofs Go.RowKit Go.Seq Go.ChangeShapes Go.WideShapes Go.ChangeAt Go.Joins
theorem own_arg {w : World} {B : Nat} {v : Value} {ps : Pts} (h : w.ownsRow B 37 2 v ps.length (enc2 ps)) : ArgFracs w v ps := by
  obtain ⟨A, c0, hv, hc⟩ := own_fracs h
  rcases h.2 with ⟨rfl, h0⟩ | ⟨g, cap, cur, rfl, hg, hh, hn, hcap, hsz, htake⟩
  · exact .inl ⟨rfl, List.eq_nil_of_length_eq_zero h0⟩
  · injection hv with e1 e2 e3
    subst e1
    refine .inr (.inr ⟨g, 0, cap, rfl, hn, hcap, (Array.getElem?_eq_some_iff.1 hh).1, fun i hi => ?_⟩)
    obtain ⟨g', o', e, h1, h2⟩ := hc i hi
    cases e
    exact ⟨h1, h2⟩
theorem drop_get {l : Pts} {e : Nat} (h : e < l.length) : l.drop e = l.getD e (0, 0) :: l.drop (e + 1) := by
  rw [List.drop_eq_getElem_cons h, List.getD_eq_getElem?_getD, List.getElem?_eq_getElem h]; rfl
theorem perm_push {bs l : Pts} {e : Nat} (h : e < l.length) (hp : bs.Perm (l.drop (e + 1))) : (bs ++ [l.getD e (0, 0)]).Perm (l.drop e) := by
  rw [drop_get h]
  exact (List.perm_append_singleton ..).trans (hp.cons _)
theorem take_neg {l : Pts} {j : Nat} (h : j < l.length) : (l.take (j + 1)).map negP = (l.take j).map negP ++ [negP (l.getD j (0, 0))] := by
  have e : l.take (j + 1) = l.take j ++ [l.getD j (0, 0)] := by
    rw [List.take_add_one, List.getElem?_eq_getElem h, List.getD_eq_getElem?_getD, List.getElem?_eq_getElem h]; rfl
  rw [e, List.map_append]; rfl
theorem alloc_cells (W : World) (n d : Int) : ∀ j u, ([.int .i64 n, .int .i64 d] : List Value)[j]? = some u → (W.alloc (.cells #[.int .i64 n, .int .i64 d] 37)).cell? ((⟨W.heap.size, 0, none⟩ : Addr).add j) = some u := by
  intro j u hj
  rw [plain_add, Nat.zero_add, (BlkAt.new W #[.int .i64 n, .int .i64 d] 37).cell]
  match j, hj with
  | 0, hj => simpa using hj
  | 1, hj => simpa using hj
  | j + 2, hj => simp at hj
section
variable {P : Program} {W : World} {k : Nat} {o : Oper} {a : Act} {v : Value}
theorem clb2 {f : FuncId} {args : Array Value} (hc : ∀ w, Below W.heap.size W w → Calls P f args w fun e w' => e = .returned v ∧ Below w.heap.size w w') (h : ∀ w, Below W.heap.size W w → (execOp a.eval o).run P w = .ok (.enter f args) w) : Many.Tr P (Cb W) k o a v :=
  Many.tr_call (f := f) (args := args) (fun w => Below W.heap.size W w) (fun _ _ h => h) (fun s w hC => (hc w hC).mono fun e w' q => ⟨q.1, Below.trans hC (q.2.mono hC.size)⟩) h
end
structure F3 (W : World) (a b c : Value) (x y z : Pts) : Prop where
  fa : FracsO W a x
  fb : FracsO W b y
  fc : FracsO W c z
theorem F3.after {W W' : World} {a b c : Value} {x y z : Pts} (h : F3 W a b c x y z) (hb : Below W.heap.size W W') : F3 W' a b c x y z := ⟨fracsO_below h.fa hb, fracsO_below h.fb hb, fracsO_below h.fc hb⟩
theorem okTs_wide {l : Pts} (h : okTs l = true) : Wide l := fun z hz => by
  obtain ⟨b1, b2, b3, b4, _⟩ := okT_bounds ((of_decide_eq_true h).2 z hz)
  exact ⟨⟨by omega, by omega⟩, ⟨by omega, by omega⟩⟩
theorem frac_cells {W : World} {C : Option Addr} {n c : Nat} {l : Pts} (hn : l.length = n) (h : FracsO W (.slice C n c) l) : ∀ e, e < l.length → ∃ g o, C = some ⟨g, o, none⟩ ∧ W.cell? ⟨g, o + e * 2, none⟩ = some (.int .i64 (l.getD e (0, 0)).1) ∧ W.cell? ⟨g, o + e * 2 + 1, none⟩ = some (.int .i64 (l.getD e (0, 0)).2) := by
  obtain ⟨A', c', hv', hc'⟩ := h
  injection hv' with e1 e2 e3
  subst e1
  exact hc'
theorem cmp_asc {a b : Int} (h : ¬ b < a) : cmpI a b ≤ 0 := by
  unfold cmpI
  by_cases h1 : a < b <;> simp [h1, h]
set_option maxHeartbeats 32000000 in
set_option maxRecDepth 100000 in
theorem sumsLaw_any {v : Value} {zs : List Int} {w : World} (hv : ArgInts w v zs) :
    Calls Try.prog 18 #[v] w fun e w' => e = .returned (.bool true) ∧ Below w.heap.size w w' := by
  obtain ⟨A, cap, rfl, hcell⟩ := arg_intsO hv
  obtain ⟨i0, hi, hz0, hz1', hz2'⟩ := info_parts info37
  have hcK := Keep.mk hcell
  clear hv hcell
  go_enter Try.func18, Try.ntmps18
  go_wp2
  go_loopw [5, 3] (fun i t wr => ∃ k : Nat, ∃ ps : Pts, (∃ m : Nat, i = .int .i64 m ∧ Keep (m = 2 * k)) ∧ ps.length = k ∧ k ≤ 5 ∧ Keep (∀ z ∈ ps, okT z = true) ∧ Keep (wr.ownsRow w.heap.size 37 2 t ps.length (enc2 ps)) ∧ (∃ C c, t = .slice C k c) ∧ Below w.heap.size w wr) (fun i _ _ => 12 - (intOf i).toNat)
  case atStart => exact ⟨0, [], ⟨0, rfl, ⟨rfl⟩⟩, rfl, by omega, ⟨fun z hz => by cases hz⟩, ⟨World.ownsRow_nil _ _ _ _⟩, ⟨none, 0, rfl⟩, Below.refl _ _⟩
  case round =>
    obtain ⟨k, ps, ⟨m, rfl, hm⟩, hpk, hk5, hok, hown, ⟨C, c, rfl⟩, hbw⟩ := hrel
    have hbz := hbw.size
    have hm2 := hm.out
    have w1 : IntKind.i64.wrap ((m : Int) + 1) = (m : Int) + 1 := IntWalk.i64_in _ (by omega)
    have w2 : IntKind.i64.wrap ((m : Int) + 2) = (m : Int) + 2 := IntWalk.i64_in _ (by omega)
    by_cases h1 : m + 1 < zs.length
    · have h1' : (m : Int) + 1 < (zs.length : Int) := by omega
      by_cases h2 : k < 5
      · have h2' : (k : Int) < 5 := by omega
        obtain ⟨g, o, rfl, hx⟩ := hcK.out m (by omega)
        obtain ⟨g', o', eg, hy⟩ := hcK.out (m + 1) h1
        obtain ⟨rfl, rfl⟩ : g = g' ∧ o = o' := by simpa using eg
        have hxl : m < zs.length := by omega
        have hmk := made_ok (zs.getD m 0) (zs.getD (m + 1) 0)
        have qm1 := fun w => mod_b (zs.getD m 0) (m := 2001) (by omega) (by omega) w
        have qm2 := fun w => mod_b (zs.getD (m + 1) 0) (m := 20) (by omega) (by omega) w
        have lx : modN (zs.getD m 0) 2001 < 2001 := by unfold modN; exact Nat.mod_lt _ (by omega)
        have ly : modN (zs.getD (m + 1) 0) 20 < 20 := by unfold modN; exact Nat.mod_lt _ (by omega)
        have q60 := fun w => reduced_any (((modN (zs.getD m 0) 2001 : Nat) : Int) - 1000) (1 + ((modN (zs.getD (m + 1) 0) 20 : Nat) : Int)) (by omega) (by omega) (by omega) (by omega) w
        obtain ⟨x0, hx0⟩ : ∃ x, Keep (redN (((modN (zs.getD m 0) 2001 : Nat) : Int) - 1000) (1 + ((modN (zs.getD (m + 1) 0) 20 : Nat) : Int)) = x) := ⟨_, ⟨rfl⟩⟩
        obtain ⟨x1, hx1⟩ : ∃ x, Keep (redD (((modN (zs.getD m 0) 2001 : Nat) : Int) - 1000) (1 + ((modN (zs.getD (m + 1) 0) 20 : Nat) : Int)) = x) := ⟨_, ⟨rfl⟩⟩
        rw [hx0.out, hx1.out] at q60 hmk
        obtain ⟨mx, hmx⟩ : ∃ x, Keep (modN (zs.getD m 0) 2001 = x) := ⟨_, ⟨rfl⟩⟩
        obtain ⟨my, hmy⟩ : ∃ x, Keep (modN (zs.getD (m + 1) 0) 20 = x) := ⟨_, ⟨rfl⟩⟩
        rw [hmx.out] at q60 qm1 lx
        rw [hmy.out] at q60 qm2 ly
        obtain ⟨nx, hnx⟩ : ∃ x, Keep ((mx : Int) - 1000 = x) := ⟨_, ⟨rfl⟩⟩
        obtain ⟨ny, hny⟩ : ∃ x, Keep (1 + (my : Int) = x) := ⟨_, ⟨rfl⟩⟩
        have wx : IntKind.i64.wrap ((mx : Int) - 1000) = nx := by rw [← hnx.out]; exact IntWalk.i64_in _ (by omega)
        have wy : IntKind.i64.wrap (1 + (my : Int)) = ny := by rw [← hny.out]; exact IntWalk.i64_in _ (by omega)
        rw [hnx.out, hny.out] at q60
        generalize zs.getD m 0 = zx at *
        generalize zs.getD (m + 1) 0 = zy at *
        unfold fracV at q60
        have hmkK := Keep.mk hmk
        clear hx0 hx1 hmx hmy hnx hny lx ly eg hmk hm2
        rw [show (((2001 : Nat) : Nat) : Int) = 2001 from rfl] at qm1
        rw [show (((20 : Nat) : Nat) : Int) = 20 from rfl] at qm2
        have hpl : ps.length ≤ 1000 := by omega
        have hneg : ¬ (m : Int) + 1 < 0 := by omega
        go_wp2
        refine (wpIn_wide (n := 0)).1 ?_
        refine Inv.region_inv (fun t act W => ∃ gB, ∃ v2, act = { tmps := #[Value.slice (some ⟨g, o, none⟩) zs.length cap, undef, Value.bool false, if t 17 = true then v2 else Value.slice C k c, Value.slice none 0 0, Value.int IntKind.i64 (m : Nat), undef, undef, undef, undef, undef, undef, undef, undef, undef, undef, undef, undef, undef, undef, undef, undef, undef, undef, undef, undef, Value.int IntKind.i64 (m : Nat), Value.int IntKind.i64 ((m : Int) + 1), Value.slice (some ⟨g, o, none⟩) zs.length cap, Value.int IntKind.i64 (zs.length : Nat), Value.bool true, Value.bool true, Value.slice C k c, Value.int IntKind.i64 (k : Nat), Value.bool true, Value.bool true, u36, u37, if t 0 = true then Value.slice C k c else u38, if t 1 = true then Value.slice (some ⟨g, o, none⟩) zs.length cap else u39, if t 2 = true then .int .i64 m else u40, if t 3 = true then .pointer (some ⟨g, o + m, none⟩) else u41, if t 4 = true then .int .i64 zx else u42, if t 5 = true then .int .i64 mx else u43, if t 6 = true then .int .i64 nx else u44, if t 7 = true then Value.slice (some ⟨g, o, none⟩) zs.length cap else u45, if t 8 = true then .int .i64 m else u46, if t 9 = true then .int .i64 ((m : Int) + 1) else u47, if t 10 = true then .pointer (some ⟨g, o + (m + 1), none⟩) else u48, if t 11 = true then .int .i64 zy else u49, if t 12 = true then .int .i64 my else u50, if t 13 = true then .int .i64 ny else u51, if t 14 = true then .agg #[.int .i64 x0, .int .i64 x1] else u52, if t 15 = true then .slice (some ⟨gB, 0, none⟩) 1 1 else u53, if t 16 = true then v2 else u54, undef, undef, undef, undef, undef, undef, undef, undef, undef, undef, undef, undef, undef, undef, undef, undef, undef, undef, undef, undef, undef, undef, undef, undef, undef, undef, undef, undef, undef, undef, undef, undef, undef, undef, undef, undef, undef, undef, undef, undef, undef, undef, undef, undef, undef, undef, undef, undef, undef, undef, undef, undef, undef, undef, undef, undef, undef, undef, undef, undef, undef, undef, undef, undef, undef, undef, undef, undef, undef, undef, undef, undef, undef, undef, undef, undef, undef, undef, undef, undef, undef, undef, undef, undef, undef, undef, undef, undef, undef, undef, undef, undef, undef, undef, undef, undef, undef, undef, undef, undef, undef, undef, undef, undef, undef, undef, undef, undef, undef, undef, undef, undef, undef, undef, undef, undef, undef, undef, undef, undef, undef, undef, undef, undef, undef, undef, undef, undef, undef, undef, undef, undef, undef, undef, undef, undef, undef, undef, undef, undef, undef, undef, undef, undef, undef, undef, undef, undef, undef, undef, undef, undef, undef, undef, undef, undef, undef, undef, undef, undef, undef, undef, undef, undef, undef, undef, undef, undef, undef], defers := [] } ∧ ApI wr w.heap.size 15 16 17 ps x0 x1 (.slice C k c) t gB v2 W) mixed_ok (by kernel_rfl) ?_ ?_ ?_
        · intro t hs
          refine ⟨0, undef, ?_, ApI.start hown.out hbz (hs 15 (by decide)) (hs 16 (by decide)) (hs 17 (by decide))⟩
          simp only [hs 0 (by decide), hs 1 (by decide), hs 2 (by decide), hs 3 (by decide), hs 4 (by decide), hs 5 (by decide), hs 6 (by decide), hs 7 (by decide), hs 8 (by decide), hs 9 (by decide), hs 10 (by decide), hs 11 (by decide), hs 12 (by decide), hs 13 (by decide), hs 14 (by decide), hs 15 (by decide), hs 16 (by decide), hs 17 (by decide), Bool.false_eq_true, if_false]
        · refine ⟨?_, ?_, ?_, ?_, ?_, ?_, ?_, ?_, ?_, ?_, ?_, ?_, ?_, ?_, ?_, ?_, ?_, ?_, trivial⟩
          · rintro t act W hun hdep hbeh ⟨gB, v2, rfl, hT⟩
            (try simp only [Nat.reduceAdd] at hun)
            have n16 : t 16 = false := hbeh 16 (by kernel_rfl)
            have n17 : t 17 = false := hT.noS n16
            refine .inl ⟨by rfl, Inv.comesV_val (Value.slice C k c) W (by (simp only [n17, if_true, Bool.false_eq_true, if_false]; go_simp; try rfl)) ⟨gB, v2, by (simp only [Act.put, List.setIfInBounds_toArray, List.set_cons_succ, List.set_cons_zero, Manyd.upd, Nat.reduceAdd, Nat.reduceBEq, Bool.or_false, Bool.or_true, if_true]), ApI.keep (i := 0) (by decide) (by decide) (by decide) hT⟩⟩
          · rintro t act W hun hdep hbeh ⟨gB, v2, rfl, hT⟩
            (try simp only [Nat.reduceAdd] at hun)
            refine .inl ⟨by rfl, Inv.comesV_val (Value.slice (some ⟨g, o, none⟩) zs.length cap) W (by (go_simp; try rfl)) ⟨gB, v2, by (simp only [Act.put, List.setIfInBounds_toArray, List.set_cons_succ, List.set_cons_zero, Manyd.upd, Nat.reduceAdd, Nat.reduceBEq, Bool.or_false, Bool.or_true, if_true]), ApI.keep (i := 1) (by decide) (by decide) (by decide) hT⟩⟩
          · rintro t act W hun hdep hbeh ⟨gB, v2, rfl, hT⟩
            (try simp only [Nat.reduceAdd] at hun)
            refine .inl ⟨by rfl, Inv.comesV_val (.int .i64 m) W (by (go_simp; try rfl)) ⟨gB, v2, by (simp only [Act.put, List.setIfInBounds_toArray, List.set_cons_succ, List.set_cons_zero, Manyd.upd, Nat.reduceAdd, Nat.reduceBEq, Bool.or_false, Bool.or_true, if_true]), ApI.keep (i := 2) (by decide) (by decide) (by decide) hT⟩⟩
          · rintro t act W hun hdep hbeh ⟨gB, v2, rfl, hT⟩
            (try simp only [Nat.reduceAdd] at hun)
            have h1 : t 1 = true := Inv.depB_mem 1 hdep (by rfl)
            have h2 : t 2 = true := Inv.depB_mem 2 hdep (by rfl)
            refine .inl ⟨by rfl, Inv.comesV_val (.pointer (some ⟨g, o + m, none⟩)) W (by (simp only [h1, h2, if_true, Bool.false_eq_true, if_false]; go_simp; try rfl)) ⟨gB, v2, by (simp only [Act.put, List.setIfInBounds_toArray, List.set_cons_succ, List.set_cons_zero, Manyd.upd, Nat.reduceAdd, Nat.reduceBEq, Bool.or_false, Bool.or_true, if_true]), ApI.keep (i := 3) (by decide) (by decide) (by decide) hT⟩⟩
          · rintro t act W hun hdep hbeh ⟨gB, v2, rfl, hT⟩
            (try simp only [Nat.reduceAdd] at hun)
            have h3 : t 3 = true := Inv.depB_mem 3 hdep (by rfl)
            have c0 := cell_below hx (hbw.trans hT.bw)
            refine .inl ⟨by rfl, Inv.comesV_val (.int .i64 zx) W (by (simp only [h3, if_true, Bool.false_eq_true, if_false]; go_simp; try rfl)) ⟨gB, v2, by (simp only [Act.put, List.setIfInBounds_toArray, List.set_cons_succ, List.set_cons_zero, Manyd.upd, Nat.reduceAdd, Nat.reduceBEq, Bool.or_false, Bool.or_true, if_true]), ApI.keep (i := 4) (by decide) (by decide) (by decide) hT⟩⟩
          · rintro t act W hun hdep hbeh ⟨gB, v2, rfl, hT⟩
            (try simp only [Nat.reduceAdd] at hun)
            have h4 : t 4 = true := Inv.depB_mem 4 hdep (by rfl)
            refine .inl ⟨by rfl, Inv.comesV_call 57 #[.int .i64 zx, .int .i64 2001] W (by (simp only [h4, if_true, Bool.false_eq_true, if_false]; go_simp; try rfl)) ((qm1 W).mono fun e w5 hw5 => ⟨_, hw5.1, gB, v2, by (simp only [Act.put, List.setIfInBounds_toArray, List.set_cons_succ, List.set_cons_zero, Manyd.upd, Nat.reduceAdd, Nat.reduceBEq, Bool.or_false, Bool.or_true, if_true]), ApI.keep (i := 5) (by decide) (by decide) (by decide) (hT.after hw5.2)⟩)⟩
          · rintro t act W hun hdep hbeh ⟨gB, v2, rfl, hT⟩
            (try simp only [Nat.reduceAdd] at hun)
            have h5 : t 5 = true := Inv.depB_mem 5 hdep (by rfl)
            refine .inl ⟨by rfl, Inv.comesV_val (.int .i64 nx) W (by (simp only [h5, if_true, Bool.false_eq_true, if_false]; go_simp; try rfl)) ⟨gB, v2, by (simp only [Act.put, List.setIfInBounds_toArray, List.set_cons_succ, List.set_cons_zero, Manyd.upd, Nat.reduceAdd, Nat.reduceBEq, Bool.or_false, Bool.or_true, if_true]), ApI.keep (i := 6) (by decide) (by decide) (by decide) hT⟩⟩
          · rintro t act W hun hdep hbeh ⟨gB, v2, rfl, hT⟩
            (try simp only [Nat.reduceAdd] at hun)
            refine .inl ⟨by rfl, Inv.comesV_val (Value.slice (some ⟨g, o, none⟩) zs.length cap) W (by (go_simp; try rfl)) ⟨gB, v2, by (simp only [Act.put, List.setIfInBounds_toArray, List.set_cons_succ, List.set_cons_zero, Manyd.upd, Nat.reduceAdd, Nat.reduceBEq, Bool.or_false, Bool.or_true, if_true]), ApI.keep (i := 7) (by decide) (by decide) (by decide) hT⟩⟩
          · rintro t act W hun hdep hbeh ⟨gB, v2, rfl, hT⟩
            (try simp only [Nat.reduceAdd] at hun)
            refine .inl ⟨by rfl, Inv.comesV_val (.int .i64 m) W (by (go_simp; try rfl)) ⟨gB, v2, by (simp only [Act.put, List.setIfInBounds_toArray, List.set_cons_succ, List.set_cons_zero, Manyd.upd, Nat.reduceAdd, Nat.reduceBEq, Bool.or_false, Bool.or_true, if_true]), ApI.keep (i := 8) (by decide) (by decide) (by decide) hT⟩⟩
          · rintro t act W hun hdep hbeh ⟨gB, v2, rfl, hT⟩
            (try simp only [Nat.reduceAdd] at hun)
            have h8 : t 8 = true := Inv.depB_mem 8 hdep (by rfl)
            refine .inl ⟨by rfl, Inv.comesV_val (.int .i64 ((m : Int) + 1)) W (by (simp only [h8, if_true, Bool.false_eq_true, if_false]; go_simp; try rfl)) ⟨gB, v2, by (simp only [Act.put, List.setIfInBounds_toArray, List.set_cons_succ, List.set_cons_zero, Manyd.upd, Nat.reduceAdd, Nat.reduceBEq, Bool.or_false, Bool.or_true, if_true]), ApI.keep (i := 9) (by decide) (by decide) (by decide) hT⟩⟩
          · rintro t act W hun hdep hbeh ⟨gB, v2, rfl, hT⟩
            (try simp only [Nat.reduceAdd] at hun)
            have h7 : t 7 = true := Inv.depB_mem 7 hdep (by rfl)
            have h9 : t 9 = true := Inv.depB_mem 9 hdep (by rfl)
            refine .inl ⟨by rfl, Inv.comesV_val (.pointer (some ⟨g, o + (m + 1), none⟩)) W (by (simp only [h7, h9, if_true, Bool.false_eq_true, if_false]; go_simp; try rfl)) ⟨gB, v2, by (simp only [Act.put, List.setIfInBounds_toArray, List.set_cons_succ, List.set_cons_zero, Manyd.upd, Nat.reduceAdd, Nat.reduceBEq, Bool.or_false, Bool.or_true, if_true]), ApI.keep (i := 10) (by decide) (by decide) (by decide) hT⟩⟩
          · rintro t act W hun hdep hbeh ⟨gB, v2, rfl, hT⟩
            (try simp only [Nat.reduceAdd] at hun)
            have h10 : t 10 = true := Inv.depB_mem 10 hdep (by rfl)
            have c0 := cell_below hy (hbw.trans hT.bw)
            refine .inl ⟨by rfl, Inv.comesV_val (.int .i64 zy) W (by (simp only [h10, if_true, Bool.false_eq_true, if_false]; go_simp; try rfl)) ⟨gB, v2, by (simp only [Act.put, List.setIfInBounds_toArray, List.set_cons_succ, List.set_cons_zero, Manyd.upd, Nat.reduceAdd, Nat.reduceBEq, Bool.or_false, Bool.or_true, if_true]), ApI.keep (i := 11) (by decide) (by decide) (by decide) hT⟩⟩
          · rintro t act W hun hdep hbeh ⟨gB, v2, rfl, hT⟩
            (try simp only [Nat.reduceAdd] at hun)
            have h11 : t 11 = true := Inv.depB_mem 11 hdep (by rfl)
            refine .inl ⟨by rfl, Inv.comesV_call 57 #[.int .i64 zy, .int .i64 20] W (by (simp only [h11, if_true, Bool.false_eq_true, if_false]; go_simp; try rfl)) ((qm2 W).mono fun e w5 hw5 => ⟨_, hw5.1, gB, v2, by (simp only [Act.put, List.setIfInBounds_toArray, List.set_cons_succ, List.set_cons_zero, Manyd.upd, Nat.reduceAdd, Nat.reduceBEq, Bool.or_false, Bool.or_true, if_true]), ApI.keep (i := 12) (by decide) (by decide) (by decide) (hT.after hw5.2)⟩)⟩
          · rintro t act W hun hdep hbeh ⟨gB, v2, rfl, hT⟩
            (try simp only [Nat.reduceAdd] at hun)
            have h12 : t 12 = true := Inv.depB_mem 12 hdep (by rfl)
            refine .inl ⟨by rfl, Inv.comesV_val (.int .i64 ny) W (by (simp only [h12, if_true, Bool.false_eq_true, if_false]; go_simp; try rfl)) ⟨gB, v2, by (simp only [Act.put, List.setIfInBounds_toArray, List.set_cons_succ, List.set_cons_zero, Manyd.upd, Nat.reduceAdd, Nat.reduceBEq, Bool.or_false, Bool.or_true, if_true]), ApI.keep (i := 13) (by decide) (by decide) (by decide) hT⟩⟩
          · rintro t act W hun hdep hbeh ⟨gB, v2, rfl, hT⟩
            (try simp only [Nat.reduceAdd] at hun)
            have h6 : t 6 = true := Inv.depB_mem 6 hdep (by rfl)
            have h13 : t 13 = true := Inv.depB_mem 13 hdep (by rfl)
            refine .inl ⟨by rfl, Inv.comesV_call 60 #[.int .i64 nx, .int .i64 ny] W (by (simp only [h6, h13, if_true, Bool.false_eq_true, if_false]; go_simp; try rfl)) ((q60 W).mono fun e w5 hw5 => ⟨_, hw5.1, gB, v2, by (simp only [Act.put, List.setIfInBounds_toArray, List.set_cons_succ, List.set_cons_zero, Manyd.upd, Nat.reduceAdd, Nat.reduceBEq, Bool.or_false, Bool.or_true, if_true]), ApI.keep (i := 14) (by decide) (by decide) (by decide) (hT.after hw5.2)⟩)⟩
          · rintro t act W hun hdep hbeh ⟨gB, v2, rfl, hT⟩
            (try simp only [Nat.reduceAdd] at hun)
            have h14 : t 14 = true := Inv.depB_mem 14 hdep (by rfl)
            refine .inl ⟨by rfl, Inv.comesV_val (.slice (some ⟨W.heap.size, 0, none⟩) 1 1) (W.alloc (.cells #[.int .i64 x0, .int .i64 x1] 37)) (by (simp only [h14, if_true, Bool.false_eq_true, if_false]; go_simp; try rfl)) ⟨W.heap.size, v2, by (simp only [Act.put, List.setIfInBounds_toArray, List.set_cons_succ, List.set_cons_zero, Manyd.upd, Nat.reduceAdd, Nat.reduceBEq, Bool.or_false, Bool.or_true, if_true]), hT.laid (by decide) (by decide) hun⟩⟩
          · rintro t act W hun hdep hbeh ⟨gB, v2, rfl, hT⟩
            (try simp only [Nat.reduceAdd] at hun)
            have h0 : t 0 = true := Inv.depB_mem 0 hdep (by rfl)
            have h15 : t 15 = true := Inv.depB_mem 15 hdep (by rfl)
            obtain ⟨v3, W3, hrun, hT3⟩ := hT.grow 24 (by decide) (by decide) hpl h15 hun
            have nS : t 17 = false := hT.noS hun
            refine .inl ⟨by rfl, Inv.comesV_val v3 W3 (Inv.exec_append (t := 24) (s := .tmp 38) (x := .tmp 53) rfl (by (simp only [h0, h15, if_true, Bool.false_eq_true, if_false]; go_simp; try rfl)) (by (simp only [h0, h15, if_true, Bool.false_eq_true, if_false]; go_simp; try rfl)) hrun) ⟨gB, v3, by (simp only [Act.put, List.setIfInBounds_toArray, List.set_cons_succ, List.set_cons_zero, Manyd.upd, Nat.reduceAdd, Nat.reduceBEq, Bool.or_false, Bool.or_true, if_true, nS, Bool.false_eq_true, if_false]), hT3⟩⟩
          · rintro t act W hun hdep hbeh ⟨gB, v2, rfl, hT⟩
            (try simp only [Nat.reduceAdd] at hun)
            have h16 : t 16 = true := Inv.depB_mem 16 hdep (by rfl)
            refine .inl ⟨by rfl, Inv.comesV_val (v2) W (by (simp only [h16, if_true, Bool.false_eq_true, if_false]; go_simp; try rfl)) ⟨gB, v2, by (simp only [Act.put, List.setIfInBounds_toArray, List.set_cons_succ, List.set_cons_zero, Manyd.upd, Nat.reduceAdd, Nat.reduceBEq, Bool.or_false, Bool.or_true, if_true]), ApI.assign (by decide) (by decide) h16 hT⟩⟩
        rintro t a' W1 hs ⟨gB, v2, rfl, hT⟩
        simp only [hs 0 (by decide), hs 1 (by decide), hs 2 (by decide), hs 3 (by decide), hs 4 (by decide), hs 5 (by decide), hs 6 (by decide), hs 7 (by decide), hs 8 (by decide), hs 9 (by decide), hs 10 (by decide), hs 11 (by decide), hs 12 (by decide), hs 13 (by decide), hs 14 (by decide), hs 15 (by decide), hs 16 (by decide), hs 17 (by decide), if_true]
        have hres := hT.res (hs 16 (by decide))
        obtain ⟨C2, c2, rfl⟩ := own_shape hres
        have hbw2 := hbw.trans hT.bw
        have hok2 : Keep (∀ z ∈ ps ++ [(x0, x1)], okT z = true) := ⟨fun z hz => by
          rcases List.mem_append.1 hz with h | h
          · exact hok.out z h
          · rw [List.mem_singleton] at h; rw [h]; exact hmkK.out⟩
        have hown2 : Keep (W1.ownsRow w.heap.size 37 2 (.slice C2 (ps.length + 1) c2) (ps ++ [(x0, x1)]).length (enc2 (ps ++ [(x0, x1)]))) := ⟨by rw [List.length_append]; exact hres⟩
        rw [hpk] at hown2 ⊢
        clear hT hs hres
        go_wp2
        refine ⟨⟨k + 1, ps ++ [(x0, x1)], ⟨m + 2, by go_num, ⟨by have := hm.out; omega⟩⟩, by rw [List.length_append, hpk]; rfl, by omega, hok2, hown2, ⟨C2, c2, rfl⟩, hbw2⟩, by have := hm.out; simp [intOf]; omega⟩
      · have h2x : ¬ (k : Int) < 5 := by omega
        have hk5' : (k : Int) ≤ 5 := by omega
        clear hm2 w2
        obtain ⟨W2, hW2⟩ : ∃ W2, Keep (wr = W2) := ⟨_, ⟨rfl⟩⟩
        have hfr := own_fracs hown.out
        have hownW := hown
        have hbwW := hbw
        rw [hW2.out] at hfr hownW hbwW
        have hfK : Keep (∀ e, e < ps.length → ∃ g o, C = some ⟨g, o, none⟩ ∧ W2.cell? ⟨g, o + e * 2, none⟩ = some (.int .i64 (ps.getD e (0, 0)).1) ∧ W2.cell? ⟨g, o + e * 2 + 1, none⟩ = some (.int .i64 (ps.getD e (0, 0)).2)) := ⟨by
          obtain ⟨A', c', hv', hc'⟩ := hfr
          injection hv' with e1 e2 e3
          subst e1
          exact hc'⟩
        clear hcK hown hbw hbz hfr
        go_wp2
        rw [hW2.out]
        clear hW2
        go_loopw [6, 4] (fun i b wq => ∃ e1 : Nat, ∃ bs : Pts, e1 ≤ k ∧ ((i = .int .i64 (-1) ∧ e1 = 0) ∨ (∃ e : Nat, e1 = e + 1 ∧ i = .int .i64 e)) ∧ Keep (bs.length = k - e1) ∧ Keep (bs.Perm (ps.drop e1)) ∧ Keep (wq.ownsRow W2.heap.size 37 2 b bs.length (enc2 bs)) ∧ (∃ C c, b = .slice C bs.length c) ∧ Below W2.heap.size W2 wq) (fun i _ _ => (intOf i + 1).toNat)
        case atStart =>
          refine ⟨k, [], Nat.le_refl _, ?_, ⟨by simp⟩, ⟨by rw [List.drop_of_length_le (by omega)]⟩, ⟨World.ownsRow_nil _ _ _ _⟩, ⟨none, 0, rfl⟩, Below.refl _ _⟩
          rcases Nat.eq_zero_or_pos k with h | h
          · exact .inl ⟨by subst h; go_num, h⟩
          · exact .inr ⟨k - 1, by omega, by congr 1; omega⟩
        case round =>
          obtain ⟨e1, bs, he1, hcase, hbl, hperm, hownb, ⟨Cb, cb, rfl⟩, hbb⟩ := hrel
          have hbbz := hbb.size
          rcases hcase with ⟨rfl, rfl⟩ | ⟨e, rfl, rfl⟩
          case inr =>
            have hep : e < ps.length := by omega
            obtain ⟨g2, o2, rfl, hz1, hz2⟩ := hfK.out e hep
            have hz1 := cell_below hz1 hbb
            have hz2 := cell_below hz2 hbb
            have hperm2 := Keep.mk (perm_push hep hperm.out)
            have heK : (e : Int) < (k : Int) := by omega
            have hek : e < k := by omega
            generalize ps.getD e (0, 0) = z at *
            obtain ⟨n, d⟩ := z
            simp only at hz1 hz2
            have hownA := own_after hownb.out ((Below.refl wr.heap.size wr).alloc (Nat.le_refl _) (.cells #[.int .i64 n, .int .i64 d] 37))
            have hnewsA := alloc_cells wr n d
            have hszA : W2.heap.size ≤ (wr.alloc (.cells #[.int .i64 n, .int .i64 d] 37)).heap.size := by simp; omega
            have hbl2 : bs.length ≤ 10 := by have := hbl.out; omega
            go_wp2_with (at_builtin; go_loud (
              refine wpList_append_own _ rfl _ _ 24 rfl W2.heap.size 37 i0 (.agg #[.int .i64 0, .int .i64 0]) 2 16 ty24 hi hz0 hz1' hz2' rfl (by decide) _ bs.length (enc2 bs) rfl hownA ⟨wr.heap.size, 0, none⟩ 1 1 [.int .i64 n, .int .i64 d] rfl rfl hnewsA (fun u hu => by simp only [List.mem_cons, List.not_mem_nil, or_false] at hu; rcases hu with rfl | rfl <;> rfl) (by unfold maxLen; omega) (by omega) hszA ?_
              intro v' w3 hown' hgrow3 hnil3
              have hbw3 : Below W2.heap.size W2 w3 := (hbb.alloc hbbz (.cells #[.int .i64 n, .int .i64 d] 37)).grown hgrow3 hszA (fun q hq => by
                rcases hownA.2 with ⟨h, _⟩ | ⟨gg, cc, cur, hh, hg', _⟩
                · injection h with h1 _ _; subst h1; cases hq
                · injection hh with h1 _ _; subst h1; cases hq; exact hg')
              rw [← enc2_push] at hown'
              obtain ⟨C3, c3, hv3⟩ := own_shape hown'
              subst hv3))
            refine ⟨⟨e, bs ++ [(n, d)], by omega, ?_, ⟨by have := hbl.out; rw [List.length_append]; simp; omega⟩, hperm2, ⟨by rw [List.length_append]; exact hown'⟩, ⟨C3, c3, by rw [List.length_append]; rfl⟩, hbw3⟩, by simp [intOf]; try omega⟩
            rcases Nat.eq_zero_or_pos e with h | h
            · exact .inl ⟨by subst h; go_num, h⟩
            · exact .inr ⟨e - 1, by omega, by first | (congr 1; omega) | (rw [IntWalk.i64_in _ (by omega)]; congr 1; omega)⟩
          case inl =>
            have hpb : Keep (bs.Perm ps) := ⟨by simpa using hperm.out⟩
            have hownL := own_after hownW.out hbb
            obtain ⟨W3, hW3⟩ : ∃ W3, Keep (wr = W3) := ⟨_, ⟨rfl⟩⟩
            have hbw03 := hbwW.trans (hbb.mono hbwW.size)
            have hownB := hownb.out
            rw [hW3.out] at hownL hbw03 hownB
            have hb23 := hbb
            rw [hW3.out] at hb23
            have hps11 : ps.take 11 = ps := List.take_of_length_le (by omega)
            have q21 := fracs_any (own_arg hownL)
            rw [hps11] at q21
            have hownLK := Keep.mk hownL
            have hownBK := Keep.mk hownB
            clear hownb hperm hbl hbb hbbz hownL hownB hownW hps11
            go_wp2_with (go_at_call 21; (try rw [hW3.out]); (with_reducible refine q21.mono ?_); rintro e W4 ⟨v7, rfl, ho7, hb4⟩
                         obtain ⟨C7, c7, hv7⟩ := own_shape ho7
                         subst hv7)
            have ho7K : Keep (W4.ownsRow W3.heap.size 37 2 (.slice C7 k c7) ps.length (enc2 ps)) := ⟨by rw [← hpk]; exact ho7⟩
            clear ho7 q21 hW3
            go_loopw [8, 7] (fun i b wq => ∃ j : Nat, ∃ qs : Pts, j ≤ k ∧ i = .int .i64 j ∧ Keep (qs = ps ++ (ps.take j).map negP) ∧ Keep (wq.ownsRow W3.heap.size 37 2 b qs.length (enc2 qs)) ∧ (∃ C c, b = .slice C qs.length c) ∧ Below W3.heap.size W3 wq) (fun i _ _ => k - (intOf i).toNat)
            case atStart => exact ⟨0, ps, by omega, rfl, ⟨by simp⟩, ho7K, ⟨C7, c7, by rw [hpk]⟩, hb4⟩
            case round =>
              obtain ⟨j, qs, hj, rfl, hqs, hownq, ⟨Cq, cq, rfl⟩, hbq⟩ := hrel
              have hbqz := hbq.size
              by_cases hjk : j < k
              · have hjk' : (j : Int) < (k : Int) := by omega
                obtain ⟨g3, o3, rfl, hz1, hz2⟩ := hfK.out j (by omega)
                have hz1 := cell_below hz1 hb23
                have hz2 := cell_below hz2 hb23
                have hzo := hok.out _ (getp (l := ps) (k := j) (by omega))
                have hqs2 : Keep (qs ++ [negP (ps.getD j (0, 0))] = ps ++ (ps.take (j + 1)).map negP) := ⟨by rw [take_neg (by omega), hqs.out, List.append_assoc]⟩
                have hql : qs.length ≤ 1000 := by rw [hqs.out, List.length_append, List.length_map, List.length_take]; omega
                generalize ps.getD j (0, 0) = z at *
                obtain ⟨n, d⟩ := z
                obtain ⟨b1, b2, b3, b4, _⟩ := okT_bounds hzo
                simp only [negP] at hz1 hz2 hqs2 b1 b2 b3 b4
                obtain ⟨nn, hnn⟩ : ∃ x, Keep (-n = x) := ⟨_, ⟨rfl⟩⟩
                have wn : IntKind.i64.wrap (-n) = nn := by rw [← hnn.out]; exact IntWalk.i64_in _ (by omega)
                rw [hnn.out] at hqs2
                have hjz : ¬ (j : Int) < 0 := by omega
                clear hzo b1 b2 b3 b4 hnn
                go_wp2
                refine (wpIn_wide (n := 0)).1 ?_
                refine Inv.region_inv (fun t act W => ∃ gB, ∃ v2, act = { tmps := #[Value.slice A zs.length cap, undef, Value.bool false, Value.slice (some ⟨g3, o3, none⟩) k c, Value.slice Cb (List.length bs) cb, Value.int IntKind.i64 (m : Nat), Value.int IntKind.i64 (-1), if t 15 = true then v2 else Value.slice Cq (List.length qs) cq, Value.int IntKind.i64 (j : Nat), undef, undef, undef, undef, undef, undef, undef, undef, undef, undef, undef, undef, undef, undef, undef, undef, undef, Value.int IntKind.i64 (m : Nat), Value.int IntKind.i64 ((m : Int) + 1), Value.slice A zs.length cap, Value.int IntKind.i64 (zs.length : Nat), Value.bool true, Value.bool true, Value.slice (some ⟨g3, o3, none⟩) k c, Value.int IntKind.i64 (k : Nat), Value.bool false, Value.bool false, u36, u37, u38, u39, u40, u41, u42, u43, u44, u45, u46, u47, u48, u49, u50, u51, u52, u53, u54, Value.slice (some ⟨g3, o3, none⟩) k c, Value.int IntKind.i64 (k : Nat), Value.int IntKind.i64 (k - 1), Value.int IntKind.i64 (-1), Value.bool false, u60, u61, u62, u63, u64, u65, u66, u67, u68, Value.slice (some ⟨g3, o3, none⟩) k c, Value.slice C7 k c7, Value.int IntKind.i64 (j : Nat), Value.slice (some ⟨g3, o3, none⟩) k c, Value.int IntKind.i64 (k : Nat), Value.bool true, u75, u76, if t 0 = true then Value.slice Cq (List.length qs) cq else u77, if t 1 = true then Value.slice (some ⟨g3, o3, none⟩) k c else u78, if t 2 = true then .int .i64 j else u79, if t 3 = true then .pointer (some ⟨g3, o3 + j * 2, none⟩) else u80, if t 4 = true then .pointer (some ⟨g3, o3 + j * 2, none⟩) else u81, if t 5 = true then .int .i64 n else u82, if t 6 = true then .int .i64 nn else u83, if t 7 = true then Value.slice (some ⟨g3, o3, none⟩) k c else u84, if t 8 = true then .int .i64 j else u85, if t 9 = true then .pointer (some ⟨g3, o3 + j * 2, none⟩) else u86, if t 10 = true then .pointer (some ⟨g3, o3 + j * 2 + 1, none⟩) else u87, if t 11 = true then .int .i64 d else u88, if t 12 = true then .agg #[.int .i64 nn, .int .i64 d] else u89, if t 13 = true then .slice (some ⟨gB, 0, none⟩) 1 1 else u90, if t 14 = true then v2 else u91, undef, undef, undef, undef, undef, undef, undef, undef, undef, undef, undef, undef, undef, undef, undef, undef, undef, undef, undef, undef, undef, undef, undef, undef, undef, undef, undef, undef, undef, undef, undef, undef, undef, undef, undef, undef, undef, undef, undef, undef, undef, undef, undef, undef, undef, undef, undef, undef, undef, undef, undef, undef, undef, undef, undef, undef, undef, undef, undef, undef, undef, undef, undef, undef, undef, undef, undef, undef, undef, undef, undef, undef, undef, undef, undef, undef, undef, undef, undef, undef, undef, undef, undef, undef, undef, undef, undef, undef, undef, undef, undef, undef, undef, undef, undef, undef, undef, undef, undef, undef, undef, undef, undef, undef, undef, undef, undef, undef, undef, undef, undef, undef, undef, undef, undef, undef, undef, undef, undef, undef, undef, undef, undef, undef, undef, undef, undef, undef, undef, undef, undef, undef], defers := [] } ∧ ApI wr W3.heap.size 13 14 15 qs nn d (.slice Cq (List.length qs) cq) t gB v2 W) mixed_ok (by kernel_rfl) ?_ ?_ ?_
                · intro t hs
                  refine ⟨0, undef, ?_, ApI.start hownq.out hbqz (hs 13 (by decide)) (hs 14 (by decide)) (hs 15 (by decide))⟩
                  simp only [hs 0 (by decide), hs 1 (by decide), hs 2 (by decide), hs 3 (by decide), hs 4 (by decide), hs 5 (by decide), hs 6 (by decide), hs 7 (by decide), hs 8 (by decide), hs 9 (by decide), hs 10 (by decide), hs 11 (by decide), hs 12 (by decide), hs 13 (by decide), hs 14 (by decide), hs 15 (by decide), Bool.false_eq_true, if_false]
                · refine ⟨?_, ?_, ?_, ?_, ?_, ?_, ?_, ?_, ?_, ?_, ?_, ?_, ?_, ?_, ?_, ?_, trivial⟩
                  · rintro t act W hun hdep hbeh ⟨gB, v2, rfl, hT⟩
                    (try simp only [Nat.reduceAdd] at hun)
                    have n14 : t 14 = false := hbeh 14 (by kernel_rfl)
                    have n15 : t 15 = false := hT.noS n14
                    refine .inl ⟨by rfl, Inv.comesV_val (Value.slice Cq (List.length qs) cq) W (by (simp only [n15, if_true, Bool.false_eq_true, if_false]; go_simp; try rfl)) ⟨gB, v2, by (simp only [Act.put, List.setIfInBounds_toArray, List.set_cons_succ, List.set_cons_zero, Manyd.upd, Nat.reduceAdd, Nat.reduceBEq, Bool.or_false, Bool.or_true, if_true]), ApI.keep (i := 0) (by decide) (by decide) (by decide) hT⟩⟩
                  · rintro t act W hun hdep hbeh ⟨gB, v2, rfl, hT⟩
                    (try simp only [Nat.reduceAdd] at hun)
                    refine .inl ⟨by rfl, Inv.comesV_val (Value.slice (some ⟨g3, o3, none⟩) k c) W (by (go_simp; try rfl)) ⟨gB, v2, by (simp only [Act.put, List.setIfInBounds_toArray, List.set_cons_succ, List.set_cons_zero, Manyd.upd, Nat.reduceAdd, Nat.reduceBEq, Bool.or_false, Bool.or_true, if_true]), ApI.keep (i := 1) (by decide) (by decide) (by decide) hT⟩⟩
                  · rintro t act W hun hdep hbeh ⟨gB, v2, rfl, hT⟩
                    (try simp only [Nat.reduceAdd] at hun)
                    refine .inl ⟨by rfl, Inv.comesV_val (.int .i64 j) W (by (go_simp; try rfl)) ⟨gB, v2, by (simp only [Act.put, List.setIfInBounds_toArray, List.set_cons_succ, List.set_cons_zero, Manyd.upd, Nat.reduceAdd, Nat.reduceBEq, Bool.or_false, Bool.or_true, if_true]), ApI.keep (i := 2) (by decide) (by decide) (by decide) hT⟩⟩
                  · rintro t act W hun hdep hbeh ⟨gB, v2, rfl, hT⟩
                    (try simp only [Nat.reduceAdd] at hun)
                    have h1 : t 1 = true := Inv.depB_mem 1 hdep (by rfl)
                    have h2 : t 2 = true := Inv.depB_mem 2 hdep (by rfl)
                    refine .inl ⟨by rfl, Inv.comesV_val (.pointer (some ⟨g3, o3 + j * 2, none⟩)) W (by (simp only [h1, h2, if_true, Bool.false_eq_true, if_false]; go_simp; try rfl)) ⟨gB, v2, by (simp only [Act.put, List.setIfInBounds_toArray, List.set_cons_succ, List.set_cons_zero, Manyd.upd, Nat.reduceAdd, Nat.reduceBEq, Bool.or_false, Bool.or_true, if_true]), ApI.keep (i := 3) (by decide) (by decide) (by decide) hT⟩⟩
                  · rintro t act W hun hdep hbeh ⟨gB, v2, rfl, hT⟩
                    (try simp only [Nat.reduceAdd] at hun)
                    have h3 : t 3 = true := Inv.depB_mem 3 hdep (by rfl)
                    refine .inl ⟨by rfl, Inv.comesV_val (.pointer (some ⟨g3, o3 + j * 2, none⟩)) W (by (simp only [h3, if_true, Bool.false_eq_true, if_false]; go_simp; try rfl)) ⟨gB, v2, by (simp only [Act.put, List.setIfInBounds_toArray, List.set_cons_succ, List.set_cons_zero, Manyd.upd, Nat.reduceAdd, Nat.reduceBEq, Bool.or_false, Bool.or_true, if_true]), ApI.keep (i := 4) (by decide) (by decide) (by decide) hT⟩⟩
                  · rintro t act W hun hdep hbeh ⟨gB, v2, rfl, hT⟩
                    (try simp only [Nat.reduceAdd] at hun)
                    have h4 : t 4 = true := Inv.depB_mem 4 hdep (by rfl)
                    have c0 := cell_below hz1 (hbq.trans hT.bw)
                    refine .inl ⟨by rfl, Inv.comesV_val (.int .i64 n) W (by (simp only [h4, if_true, Bool.false_eq_true, if_false]; go_simp; try rfl)) ⟨gB, v2, by (simp only [Act.put, List.setIfInBounds_toArray, List.set_cons_succ, List.set_cons_zero, Manyd.upd, Nat.reduceAdd, Nat.reduceBEq, Bool.or_false, Bool.or_true, if_true]), ApI.keep (i := 5) (by decide) (by decide) (by decide) hT⟩⟩
                  · rintro t act W hun hdep hbeh ⟨gB, v2, rfl, hT⟩
                    (try simp only [Nat.reduceAdd] at hun)
                    have h5 : t 5 = true := Inv.depB_mem 5 hdep (by rfl)
                    refine .inl ⟨by rfl, Inv.comesV_val (.int .i64 nn) W (by (simp only [h5, if_true, Bool.false_eq_true, if_false]; go_simp; try rfl)) ⟨gB, v2, by (simp only [Act.put, List.setIfInBounds_toArray, List.set_cons_succ, List.set_cons_zero, Manyd.upd, Nat.reduceAdd, Nat.reduceBEq, Bool.or_false, Bool.or_true, if_true]), ApI.keep (i := 6) (by decide) (by decide) (by decide) hT⟩⟩
                  · rintro t act W hun hdep hbeh ⟨gB, v2, rfl, hT⟩
                    (try simp only [Nat.reduceAdd] at hun)
                    refine .inl ⟨by rfl, Inv.comesV_val (Value.slice (some ⟨g3, o3, none⟩) k c) W (by (go_simp; try rfl)) ⟨gB, v2, by (simp only [Act.put, List.setIfInBounds_toArray, List.set_cons_succ, List.set_cons_zero, Manyd.upd, Nat.reduceAdd, Nat.reduceBEq, Bool.or_false, Bool.or_true, if_true]), ApI.keep (i := 7) (by decide) (by decide) (by decide) hT⟩⟩
                  · rintro t act W hun hdep hbeh ⟨gB, v2, rfl, hT⟩
                    (try simp only [Nat.reduceAdd] at hun)
                    refine .inl ⟨by rfl, Inv.comesV_val (.int .i64 j) W (by (go_simp; try rfl)) ⟨gB, v2, by (simp only [Act.put, List.setIfInBounds_toArray, List.set_cons_succ, List.set_cons_zero, Manyd.upd, Nat.reduceAdd, Nat.reduceBEq, Bool.or_false, Bool.or_true, if_true]), ApI.keep (i := 8) (by decide) (by decide) (by decide) hT⟩⟩
                  · rintro t act W hun hdep hbeh ⟨gB, v2, rfl, hT⟩
                    (try simp only [Nat.reduceAdd] at hun)
                    have h7 : t 7 = true := Inv.depB_mem 7 hdep (by rfl)
                    have h8 : t 8 = true := Inv.depB_mem 8 hdep (by rfl)
                    refine .inl ⟨by rfl, Inv.comesV_val (.pointer (some ⟨g3, o3 + j * 2, none⟩)) W (by (simp only [h7, h8, if_true, Bool.false_eq_true, if_false]; go_simp; try rfl)) ⟨gB, v2, by (simp only [Act.put, List.setIfInBounds_toArray, List.set_cons_succ, List.set_cons_zero, Manyd.upd, Nat.reduceAdd, Nat.reduceBEq, Bool.or_false, Bool.or_true, if_true]), ApI.keep (i := 9) (by decide) (by decide) (by decide) hT⟩⟩
                  · rintro t act W hun hdep hbeh ⟨gB, v2, rfl, hT⟩
                    (try simp only [Nat.reduceAdd] at hun)
                    have h9 : t 9 = true := Inv.depB_mem 9 hdep (by rfl)
                    refine .inl ⟨by rfl, Inv.comesV_val (.pointer (some ⟨g3, o3 + j * 2 + 1, none⟩)) W (by (simp only [h9, if_true, Bool.false_eq_true, if_false]; go_simp; try rfl)) ⟨gB, v2, by (simp only [Act.put, List.setIfInBounds_toArray, List.set_cons_succ, List.set_cons_zero, Manyd.upd, Nat.reduceAdd, Nat.reduceBEq, Bool.or_false, Bool.or_true, if_true]), ApI.keep (i := 10) (by decide) (by decide) (by decide) hT⟩⟩
                  · rintro t act W hun hdep hbeh ⟨gB, v2, rfl, hT⟩
                    (try simp only [Nat.reduceAdd] at hun)
                    have h10 : t 10 = true := Inv.depB_mem 10 hdep (by rfl)
                    have c0 := cell_below hz2 (hbq.trans hT.bw)
                    refine .inl ⟨by rfl, Inv.comesV_val (.int .i64 d) W (by (simp only [h10, if_true, Bool.false_eq_true, if_false]; go_simp; try rfl)) ⟨gB, v2, by (simp only [Act.put, List.setIfInBounds_toArray, List.set_cons_succ, List.set_cons_zero, Manyd.upd, Nat.reduceAdd, Nat.reduceBEq, Bool.or_false, Bool.or_true, if_true]), ApI.keep (i := 11) (by decide) (by decide) (by decide) hT⟩⟩
                  · rintro t act W hun hdep hbeh ⟨gB, v2, rfl, hT⟩
                    (try simp only [Nat.reduceAdd] at hun)
                    have h6 : t 6 = true := Inv.depB_mem 6 hdep (by rfl)
                    have h11 : t 11 = true := Inv.depB_mem 11 hdep (by rfl)
                    refine .inl ⟨by rfl, Inv.comesV_val (.agg #[.int .i64 nn, .int .i64 d]) W (by (simp only [h6, h11, if_true, Bool.false_eq_true, if_false]; go_simp; try rfl)) ⟨gB, v2, by (simp only [Act.put, List.setIfInBounds_toArray, List.set_cons_succ, List.set_cons_zero, Manyd.upd, Nat.reduceAdd, Nat.reduceBEq, Bool.or_false, Bool.or_true, if_true]), ApI.keep (i := 12) (by decide) (by decide) (by decide) hT⟩⟩
                  · rintro t act W hun hdep hbeh ⟨gB, v2, rfl, hT⟩
                    (try simp only [Nat.reduceAdd] at hun)
                    have h12 : t 12 = true := Inv.depB_mem 12 hdep (by rfl)
                    refine .inl ⟨by rfl, Inv.comesV_val (.slice (some ⟨W.heap.size, 0, none⟩) 1 1) (W.alloc (.cells #[.int .i64 nn, .int .i64 d] 37)) (by (simp only [h12, if_true, Bool.false_eq_true, if_false]; go_simp; try rfl)) ⟨W.heap.size, v2, by (simp only [Act.put, List.setIfInBounds_toArray, List.set_cons_succ, List.set_cons_zero, Manyd.upd, Nat.reduceAdd, Nat.reduceBEq, Bool.or_false, Bool.or_true, if_true]), hT.laid (by decide) (by decide) hun⟩⟩
                  · rintro t act W hun hdep hbeh ⟨gB, v2, rfl, hT⟩
                    (try simp only [Nat.reduceAdd] at hun)
                    have h0 : t 0 = true := Inv.depB_mem 0 hdep (by rfl)
                    have h13 : t 13 = true := Inv.depB_mem 13 hdep (by rfl)
                    obtain ⟨v3, W3, hrun, hT3⟩ := hT.grow 24 (by decide) (by decide) hql h13 hun
                    have nS : t 15 = false := hT.noS hun
                    refine .inl ⟨by rfl, Inv.comesV_val v3 W3 (Inv.exec_append (t := 24) (s := .tmp 77) (x := .tmp 90) rfl (by (simp only [h0, h13, if_true, Bool.false_eq_true, if_false]; go_simp; try rfl)) (by (simp only [h0, h13, if_true, Bool.false_eq_true, if_false]; go_simp; try rfl)) hrun) ⟨gB, v3, by (simp only [Act.put, List.setIfInBounds_toArray, List.set_cons_succ, List.set_cons_zero, Manyd.upd, Nat.reduceAdd, Nat.reduceBEq, Bool.or_false, Bool.or_true, if_true, nS, Bool.false_eq_true, if_false]), hT3⟩⟩
                  · rintro t act W hun hdep hbeh ⟨gB, v2, rfl, hT⟩
                    (try simp only [Nat.reduceAdd] at hun)
                    have h14 : t 14 = true := Inv.depB_mem 14 hdep (by rfl)
                    refine .inl ⟨by rfl, Inv.comesV_val (v2) W (by (simp only [h14, if_true, Bool.false_eq_true, if_false]; go_simp; try rfl)) ⟨gB, v2, by (simp only [Act.put, List.setIfInBounds_toArray, List.set_cons_succ, List.set_cons_zero, Manyd.upd, Nat.reduceAdd, Nat.reduceBEq, Bool.or_false, Bool.or_true, if_true]), ApI.assign (by decide) (by decide) h14 hT⟩⟩
                rintro t a' W5 hs ⟨gB, v2, rfl, hT⟩
                simp only [hs 0 (by decide), hs 1 (by decide), hs 2 (by decide), hs 3 (by decide), hs 4 (by decide), hs 5 (by decide), hs 6 (by decide), hs 7 (by decide), hs 8 (by decide), hs 9 (by decide), hs 10 (by decide), hs 11 (by decide), hs 12 (by decide), hs 13 (by decide), hs 14 (by decide), hs 15 (by decide), if_true]
                have hres := hT.res (hs 14 (by decide))
                obtain ⟨C8, c8, rfl⟩ := own_shape hres
                have hbq2 := hbq.trans hT.bw
                clear hT hs
                go_wp2
                exact ⟨⟨j + 1, qs ++ [(nn, d)], by omega, by go_num, hqs2, ⟨by rw [List.length_append]; exact hres⟩, ⟨C8, c8, by rw [List.length_append]; rfl⟩, hbq2⟩, by simp [intOf]; omega⟩
              · obtain rfl : j = k := by omega
                have hqs3 : Keep (qs = ps ++ ps.map negP) := ⟨by rw [hqs.out, List.take_of_length_le (by omega)]⟩
                have hb3r := hbq
                have hF3 : F3 wr (.slice C j c) (.slice Cb bs.length cb) (.slice Cq qs.length cq) ps bs qs := ⟨fracsO_below (by have h := own_fracs hownLK.out; exact h) hb3r, fracsO_below (own_fracs hownBK.out) hb3r, own_fracs hownq.out⟩
                have hbW5 := hbw03.trans (hbq.mono hbw03.size)
                have dP : okTs ps = true := decide_eq_true ⟨by omega, hok.out⟩
                have dB : okTs bs = true := decide_eq_true ⟨by rw [hpb.out.length_eq]; omega, fun z hz => hok.out z (hpb.out.mem_iff.1 hz)⟩
                have dQ : okTs qs = true := decide_eq_true ⟨by rw [hqs3.out, List.length_append, List.length_map]; omega, fun z hz => by
                  rw [hqs3.out] at hz
                  rcases List.mem_append.1 hz with h | h
                  · exact hok.out z h
                  · obtain ⟨y, hy, rfl⟩ := List.mem_map.1 h
                    exact okT_neg (hok.out y hy)⟩
                have q49p := fun w v h => sum_yes (v := v) (w := w) (l := ps) h (okTs_wide dP) dP
                have q49b := fun w v h => sum_yes (v := v) (w := w) (l := bs) h (okTs_wide dB) dB
                have q49q := fun w v h => sum_yes (v := v) (w := w) (l := qs) h (okTs_wide dQ) dQ
                rw [sumT_perm hpb.out] at q49b
                rw [hqs3.out, sumT_both, redV_zero (by decide), ← hqs3.out] at q49q
                unfold redV at q49p q49b
                obtain ⟨a0, ha0⟩ : ∃ x, Keep (redN (sumT ps) MM = x) := ⟨_, ⟨rfl⟩⟩
                obtain ⟨a1, ha1⟩ : ∃ x, Keep (redD (sumT ps) MM = x) := ⟨_, ⟨rfl⟩⟩
                rw [ha0.out, ha1.out] at q49p q49b
                unfold fracV at q49p q49b q49q
                have q50 := fun w v h => sortedFn_yes (v := v) (w := w) (l := ps) h (okTs_wide dP) dP
                have hok2 := hok
                clear hownLK hownBK hownq hqs hqs3 hb3r hbq hbqz dB dQ ha0 ha1 ho7K hb4 hfK hb23 hbw03 hbwW hpb hjk hj
                go_wp2_with (first
                  | (go_at_call 49; (with_reducible refine (q49p _ _ hF3.fa).mono ?_); rintro e w6 ⟨rfl, hb6⟩
                     obtain ⟨w7, hw7⟩ : ∃ w7, Keep (w6.alloc (.cells #[.int .i64 a0, .int .i64 a1] 37) = w7) := ⟨_, ⟨rfl⟩⟩
                     have hb7 : Below w6.heap.size w6 w7 := by rw [← hw7.out]; exact (Below.refl _ _).alloc (Nat.le_refl _) _
                     have o9 : Own2 w7 w6.heap.size (.int .i64 a0) (.int .i64 a1) := by rw [← hw7.out]; exact Own2.new _ _ _ _
                     have hF3 := (hF3.after hb6).after hb7
                     have hbW7 := hbW5.trans ((hb6.mono hbW5.size).trans (hb7.mono (Nat.le_trans hbW5.size hb6.size)))
                     clear q49p hb6 hb7 hbW5)
                  | (go_at_call 49; (try rw [hw7.out]); (with_reducible refine (q49b _ _ hF3.fb).mono ?_); rintro e w8 ⟨rfl, hb8⟩
                     obtain ⟨w9, hw9⟩ : ∃ w9, Keep (w8.alloc (.cells #[.int .i64 a0, .int .i64 a1] 37) = w9) := ⟨_, ⟨rfl⟩⟩
                     have hb9 : Below w8.heap.size w8 w9 := by rw [← hw9.out]; exact (Below.refl _ _).alloc (Nat.le_refl _) _
                     have o11 : Own2 w9 w8.heap.size (.int .i64 a0) (.int .i64 a1) := by rw [← hw9.out]; exact Own2.new _ _ _ _
                     have hF3 := (hF3.after hb8).after hb9
                     have o9 := (o9.after hb8).after hb9
                     have hbW9 := hbW7.trans ((hb8.mono hbW7.size).trans (hb9.mono (Nat.le_trans hbW7.size hb8.size)))
                     clear q49b hb8 hb9 hbW7)
                  | (go_at_call 49; (try rw [hw9.out]); (with_reducible refine (q49q _ _ hF3.fc).mono ?_); rintro e w10 ⟨rfl, hb10⟩
                     obtain ⟨w11, hw11⟩ : ∃ w11, Keep (w10.alloc (.cells #[.int .i64 0, .int .i64 1] 37) = w11) := ⟨_, ⟨rfl⟩⟩
                     have hb11 : Below w10.heap.size w10 w11 := by rw [← hw11.out]; exact (Below.refl _ _).alloc (Nat.le_refl _) _
                     have o13 : Own2 w11 w10.heap.size (.int .i64 0) (.int .i64 1) := by rw [← hw11.out]; exact Own2.new _ _ _ _
                     have hF3 := (hF3.after hb10).after hb11
                     have o9 := (o9.after hb10).after hb11
                     have o11 := (o11.after hb10).after hb11
                     have hbW11 := hbW9.trans ((hb10.mono hbW9.size).trans (hb11.mono (Nat.le_trans hbW9.size hb10.size)))
                     clear q49q hb10 hb11 hbW9)
                  | (go_at_call 50; (try rw [hw11.out]); (with_reducible refine (q50 _ _ hF3.fa).mono ?_); rintro e w12 ⟨v15, sl, rfl, hs15, hasc, hb12⟩
                     have hF3 := hF3.after hb12
                     have o9 := o9.after hb12
                     have o11 := o11.after hb12
                     have o13 := o13.after hb12
                     have hbW12 := hbW11.trans (hb12.mono hbW11.size)
                     have dS : okTs sl = true := decide_eq_true ⟨by rw [hasc.perm.length_eq]; omega, fun z hz => hok2.out z (hasc.perm.mem_iff.1 hz)⟩
                     have q50s := fun w v h => sortedFn_yes (v := v) (w := w) (l := sl) h (okTs_wide dS) dS
                     clear q50 hb12 hbW11)
                  | (go_at_call 50; (with_reducible refine (q50s _ _ hs15).mono ?_); rintro e w13 ⟨v17, tl, rfl, hs17, hasc2, hb13⟩
                     have hF3 := hF3.after hb13
                     have o9 := o9.after hb13
                     have o11 := o11.after hb13
                     have o13 := o13.after hb13
                     have hs15 := fracsO_below hs15 hb13
                     have hbW13 := hbW12.trans (hb13.mono hbW12.size)
                     obtain rfl : sl = tl := asc_asc hasc hasc2 hok2.out
                     clear q50s hb13 hbW12 hasc2 dS))
                have hsl : sl.length = j := by rw [hasc.perm.length_eq]; exact hpk
                obtain ⟨Cs, cs, rfl, hs15c⟩ := hs15
                rw [hsl]
                have q27 : ∀ w, Below w13.heap.size w13 w → Calls Try.prog 27 #[.slice Cs j cs, v17] w fun e w' => e = .returned (.bool true) ∧ Below w.heap.size w w' := fun w hb => by
                  have h15 : FracsO w13 (.slice Cs j cs) sl := ⟨Cs, cs, by rw [hsl], hs15c⟩
                  exact same_any (fracsO_below h15 hb) (fracsO_below hs17 hb) (by omega)
                have q29 := fun w => refWhole_any 0 w
                have eA := eqS a0 a1
                have eZ := eqS 0 1
                unfold fracV at q29
                generalize hK : j = k at *
                clear hK
                have hsK : Keep (∀ e, e < k → ∃ g o, Cs = some ⟨g, o, none⟩ ∧ w13.cell? ⟨g, o + e * 2, none⟩ = some (.int .i64 (sl.getD e (0, 0)).1) ∧ w13.cell? ⟨g, o + e * 2 + 1, none⟩ = some (.int .i64 (sl.getD e (0, 0)).2)) := ⟨fun e he => hs15c e (by omega)⟩
                have hpK : Keep (∀ e, e < k → ∃ g o, C = some ⟨g, o, none⟩ ∧ w13.cell? ⟨g, o + e * 2, none⟩ = some (.int .i64 (ps.getD e (0, 0)).1) ∧ w13.cell? ⟨g, o + e * 2 + 1, none⟩ = some (.int .i64 (ps.getD e (0, 0)).2)) := ⟨fun e he => frac_cells hpk hF3.fa e (by omega)⟩
                have hslK := Keep.mk hsl
                have hpkK := Keep.mk hpk
                clear hs15c hF3 hsl hpk dP
                go_wp2
                refine (wpIn_wide (n := 0)).1 ?_
                refine Many.region_many (Go.Proofs.Ytbocmbhinjkjlaa.Cb w13) mixed_ok (by kernel_rfl) (fun _ _ _ _ h => h) (fun s _ => Go.Proofs.Ytbocmbhinjkjlaa.Cb.start w13 s) ?_
                refine Many.lex_want (by rfl) (rdb (fun w hb => by (go_simp; try rfl))) ?_
                simp only [Act.put, List.setIfInBounds_toArray, List.set_cons_succ, List.set_cons_zero, Nat.reduceAdd]
                refine Many.lex_want (by rfl) (rdb (v := .bool false) (fun w hb => by (skip; go_simp; try rfl))) ?_
                simp only [Act.put, List.setIfInBounds_toArray, List.set_cons_succ, List.set_cons_zero, Nat.reduceAdd]
                refine Many.lex_want (by rfl) (rdb (v := .bool false) (fun w hb => by (skip; go_simp; try rfl))) ?_
                simp only [Act.put, List.setIfInBounds_toArray, List.set_cons_succ, List.set_cons_zero, Nat.reduceAdd]
                refine Many.lex_want (by rfl) (rdb (fun w hb => by (go_simp; try rfl))) ?_
                simp only [Act.put, List.setIfInBounds_toArray, List.set_cons_succ, List.set_cons_zero, Nat.reduceAdd]
                refine Many.lex_want (by rfl) (rdb (v := .bool false) (fun w hb => by (skip; go_simp; try rfl))) ?_
                simp only [Act.put, List.setIfInBounds_toArray, List.set_cons_succ, List.set_cons_zero, Nat.reduceAdd]
                refine Many.lex_want (by rfl) (rdb (v := .bool false) (fun w hb => by (skip; go_simp; try rfl))) ?_
                simp only [Act.put, List.setIfInBounds_toArray, List.set_cons_succ, List.set_cons_zero, Nat.reduceAdd]
                refine Many.lex_want (by rfl) (rdb (v := .bool false) (fun w hb => by (skip; go_simp; try rfl))) ?_
                simp only [Act.put, List.setIfInBounds_toArray, List.set_cons_succ, List.set_cons_zero, Nat.reduceAdd]
                refine Many.lex_want (by rfl) (rdb (fun w hb => by (go_simp; try rfl))) ?_
                simp only [Act.put, List.setIfInBounds_toArray, List.set_cons_succ, List.set_cons_zero, Nat.reduceAdd]
                refine Many.lex_want (by rfl) (rdb (v := .bool false) (fun w hb => by (skip; go_simp; try rfl))) ?_
                simp only [Act.put, List.setIfInBounds_toArray, List.set_cons_succ, List.set_cons_zero, Nat.reduceAdd]
                refine Many.lex_want (by rfl) (rdb (v := .bool false) (fun w hb => by (skip; go_simp; try rfl))) ?_
                simp only [Act.put, List.setIfInBounds_toArray, List.set_cons_succ, List.set_cons_zero, Nat.reduceAdd]
                refine Many.lex_want (by rfl) (rdb (v := .bool false) (fun w hb => by (skip; go_simp; try rfl))) ?_
                simp only [Act.put, List.setIfInBounds_toArray, List.set_cons_succ, List.set_cons_zero, Nat.reduceAdd]
                refine Many.lex_want (by rfl) (rdb (fun w hb => by (go_simp; try rfl))) ?_
                simp only [Act.put, List.setIfInBounds_toArray, List.set_cons_succ, List.set_cons_zero, Nat.reduceAdd]
                refine Many.lex_want (by rfl) (rdb (v := .bool false) (fun w hb => by (skip; go_simp; try rfl))) ?_
                simp only [Act.put, List.setIfInBounds_toArray, List.set_cons_succ, List.set_cons_zero, Nat.reduceAdd]
                refine Many.lex_want (by rfl) (rdb (v := .bool false) (fun w hb => by (skip; go_simp; try rfl))) ?_
                simp only [Act.put, List.setIfInBounds_toArray, List.set_cons_succ, List.set_cons_zero, Nat.reduceAdd]
                refine Many.lex_want (by rfl) (rdb (v := .bool false) (fun w hb => by (skip; go_simp; try rfl))) ?_
                simp only [Act.put, List.setIfInBounds_toArray, List.set_cons_succ, List.set_cons_zero, Nat.reduceAdd]
                refine Many.lex_want (by rfl) (rdb (fun w hb => by (go_simp; try rfl))) ?_
                simp only [Act.put, List.setIfInBounds_toArray, List.set_cons_succ, List.set_cons_zero, Nat.reduceAdd]
                refine Many.lex_want (by rfl) (rdb (v := .bool false) (fun w hb => by (skip; go_simp; try rfl))) ?_
                simp only [Act.put, List.setIfInBounds_toArray, List.set_cons_succ, List.set_cons_zero, Nat.reduceAdd]
                refine Many.lex_want (by rfl) (rdb (v := .bool false) (fun w hb => by (skip; go_simp; try rfl))) ?_
                simp only [Act.put, List.setIfInBounds_toArray, List.set_cons_succ, List.set_cons_zero, Nat.reduceAdd]
                refine Many.lex_want (by rfl) (rdb (v := .bool false) (fun w hb => by (skip; go_simp; try rfl))) ?_
                simp only [Act.put, List.setIfInBounds_toArray, List.set_cons_succ, List.set_cons_zero, Nat.reduceAdd]
                refine Many.lex_want (by rfl) (rdb (v := .agg #[.int .i64 a0, .int .i64 a1]) (fun w hb => by (obtain ⟨c0, c1, f0, f1⟩ := (o9).after hb; go_simp; try rfl))) ?_
                simp only [Act.put, List.setIfInBounds_toArray, List.set_cons_succ, List.set_cons_zero, Nat.reduceAdd]
                refine Many.lex_want (by rfl) (rdb (v := .agg #[.int .i64 a0, .int .i64 a1]) (fun w hb => by (obtain ⟨c0, c1, f0, f1⟩ := (o11).after hb; go_simp; try rfl))) ?_
                simp only [Act.put, List.setIfInBounds_toArray, List.set_cons_succ, List.set_cons_zero, Nat.reduceAdd]
                refine Many.lex_want (by rfl) (rdb (v := .bool false) (fun w hb => by (have e := eA; go_simp; try rfl))) ?_
                simp only [Act.put, List.setIfInBounds_toArray, List.set_cons_succ, List.set_cons_zero, Nat.reduceAdd]
                refine Many.lex_want (by rfl) (rdb (v := .bool false) (fun w hb => by (skip; go_simp; try rfl))) ?_
                simp only [Act.put, List.setIfInBounds_toArray, List.set_cons_succ, List.set_cons_zero, Nat.reduceAdd]
                refine Many.lex_want (by rfl) (rdb (v := .bool false) (fun w hb => by (skip; go_simp; try rfl))) ?_
                simp only [Act.put, List.setIfInBounds_toArray, List.set_cons_succ, List.set_cons_zero, Nat.reduceAdd]
                refine Many.lex_want (by rfl) (rdb (v := .agg #[.int .i64 0, .int .i64 1]) (fun w hb => by (obtain ⟨c0, c1, f0, f1⟩ := (o13).after hb; go_simp; try rfl))) ?_
                simp only [Act.put, List.setIfInBounds_toArray, List.set_cons_succ, List.set_cons_zero, Nat.reduceAdd]
                refine Many.lex_want (by rfl) (clb q29 (fun w hb => by (go_simp; try rfl))) ?_
                simp only [Act.put, List.setIfInBounds_toArray, List.set_cons_succ, List.set_cons_zero, Nat.reduceAdd]
                refine Many.lex_want (by rfl) (rdb (v := .bool false) (fun w hb => by (have e := eZ; go_simp; try rfl))) ?_
                simp only [Act.put, List.setIfInBounds_toArray, List.set_cons_succ, List.set_cons_zero, Nat.reduceAdd]
                refine Many.lex_want (by rfl) (rdb (v := .bool false) (fun w hb => by (skip; go_simp; try rfl))) ?_
                simp only [Act.put, List.setIfInBounds_toArray, List.set_cons_succ, List.set_cons_zero, Nat.reduceAdd]
                refine Many.lex_want (by rfl) (rdb (v := .bool false) (fun w hb => by (skip; go_simp; try rfl))) ?_
                simp only [Act.put, List.setIfInBounds_toArray, List.set_cons_succ, List.set_cons_zero, Nat.reduceAdd]
                refine Many.lex_want (by rfl) (rdb (fun w hb => by (go_simp; try rfl))) ?_
                simp only [Act.put, List.setIfInBounds_toArray, List.set_cons_succ, List.set_cons_zero, Nat.reduceAdd]
                refine Many.lex_want (by rfl) (rdb (fun w hb => by (go_simp; try rfl))) ?_
                simp only [Act.put, List.setIfInBounds_toArray, List.set_cons_succ, List.set_cons_zero, Nat.reduceAdd]
                refine Many.lex_want (by rfl) (clb2 q27 (fun w hb => by (go_simp; try rfl))) ?_
                simp only [Act.put, List.setIfInBounds_toArray, List.set_cons_succ, List.set_cons_zero, Nat.reduceAdd]
                refine Many.lex_want (by rfl) (rdb (v := .bool false) (fun w hb => by (skip; go_simp; try rfl))) ?_
                simp only [Act.put, List.setIfInBounds_toArray, List.set_cons_succ, List.set_cons_zero, Nat.reduceAdd]
                refine Many.lex_want (by rfl) (rdb (v := .bool false) (fun w hb => by (skip; go_simp; try rfl))) ?_
                simp only [Act.put, List.setIfInBounds_toArray, List.set_cons_succ, List.set_cons_zero, Nat.reduceAdd]
                refine Many.lex_want (by rfl) (rdb (v := .bool false) (fun w hb => by (skip; go_simp; try rfl))) ?_
                simp only [Act.put, List.setIfInBounds_toArray, List.set_cons_succ, List.set_cons_zero, Nat.reduceAdd]
                refine Many.lex_want (by rfl) (rdb (fun w hb => by (go_simp; try rfl))) ?_
                simp only [Act.put, List.setIfInBounds_toArray, List.set_cons_succ, List.set_cons_zero, Nat.reduceAdd]
                refine Many.lex_want (by rfl) (rdb (v := .int .i64 (k : Nat)) (fun w hb => by (skip; go_simp; try rfl))) ?_
                simp only [Act.put, List.setIfInBounds_toArray, List.set_cons_succ, List.set_cons_zero, Nat.reduceAdd]
                refine Many.lex_want (by rfl) (rdb (fun w hb => by (go_simp; try rfl))) ?_
                simp only [Act.put, List.setIfInBounds_toArray, List.set_cons_succ, List.set_cons_zero, Nat.reduceAdd]
                refine Many.lex_want (by rfl) (rdb (v := .int .i64 (k : Nat)) (fun w hb => by (skip; go_simp; try rfl))) ?_
                simp only [Act.put, List.setIfInBounds_toArray, List.set_cons_succ, List.set_cons_zero, Nat.reduceAdd]
                refine Many.lex_want (by rfl) (rdb (v := .bool false) (fun w hb => by (skip; go_simp; try rfl))) ?_
                simp only [Act.put, List.setIfInBounds_toArray, List.set_cons_succ, List.set_cons_zero, Nat.reduceAdd]
                refine Many.lex_want (by rfl) (rdb (v := .bool false) (fun w hb => by (skip; go_simp; try rfl))) ?_
                simp only [Act.put, List.setIfInBounds_toArray, List.set_cons_succ, List.set_cons_zero, Nat.reduceAdd]
                refine Many.lex_nil fun s w14 hs hC => ?_
                have hC : Below w13.heap.size w13 w14 := hC
                have hbW14 := hbW13.trans (hC.mono hbW13.size)
                have hC13 := hC
                clear hC hs q27 q29 eA eZ o9 o11 o13
                go_wp2
                go_loopw [19] (fun i wq => ∃ i1 : Nat, 1 ≤ i1 ∧ i1 ≤ k + 1 ∧ i = .int .i64 i1 ∧ Below w13.heap.size w13 wq) (fun i _ => k + 1 - (intOf i).toNat)
                case atStart => exact ⟨1, by omega, by omega, rfl, hC13⟩
                case round =>
                  obtain ⟨i1, hi1, hi1k, rfl, hbr⟩ := hrel
                  have hbrz := hbr.size
                  by_cases hlt : i1 < k
                  · obtain ⟨j, hj⟩ : ∃ j, Keep (i1 = j + 1) := ⟨i1 - 1, ⟨by omega⟩⟩
                    have hjk : j < k := by have := hj.out; omega
                    obtain ⟨gp, op, rfl, hf1, hf2⟩ := hpK.out j hjk
                    obtain ⟨gp', op', e1', hg1, hg2⟩ := hpK.out i1 hlt
                    obtain ⟨rfl, rfl⟩ : gp = gp' ∧ op = op' := by simpa using e1'
                    obtain ⟨gs, os, rfl, hsf1, hsf2⟩ := hsK.out j hjk
                    obtain ⟨gs', os', e2', hsg1, hsg2⟩ := hsK.out i1 hlt
                    obtain ⟨rfl, rfl⟩ : gs = gs' ∧ os = os' := by simpa using e2'
                    have hf1 := cell_below hf1 hbr
                    have hf2 := cell_below hf2 hbr
                    have hg1 := cell_below hg1 hbr
                    have hg2 := cell_below hg2 hbr
                    have hsf1 := cell_below hsf1 hbr
                    have hsf2 := cell_below hsf2 hbr
                    have hsg1 := cell_below hsg1 hbr
                    have hsg2 := cell_below hsg2 hbr
                    have kf := hok2.out _ (getp (l := ps) (k := j) (by have := hpkK.out; omega))
                    have kg := hok2.out _ (getp (l := ps) (k := i1) (by have := hpkK.out; omega))
                    have ksf := hok2.out _ (hasc.perm.mem_iff.1 (getp (l := sl) (k := j) (by have := hslK.out; omega)))
                    have ksg := hok2.out _ (hasc.perm.mem_iff.1 (getp (l := sl) (k := i1) (by have := hslK.out; omega)))
                    have hord := hasc.ord j i1 (by have := hj.out; omega) (by have := hslK.out; omega)
                    generalize ps.getD j (0, 0) = f at *
                    generalize ps.getD i1 (0, 0) = gg at *
                    generalize sl.getD j (0, 0) = sf at *
                    generalize sl.getD i1 (0, 0) = sg at *
                    have q54a := fun w => compareFn_yes kf kg w
                    have q54b := fun w => compareFn_yes kg kf w
                    have q54s := fun w => compareFn_yes ksf ksg w
                    obtain ⟨n, d⟩ := f
                    obtain ⟨m1, q⟩ := gg
                    obtain ⟨sn, sd⟩ := sf
                    obtain ⟨sm, sq⟩ := sg
                    simp only at q54a q54b q54s hf1 hf2 hg1 hg2 hsf1 hsf2 hsg1 hsg2 hord
                    have hR := cmp_neg (n * q) (m1 * d)
                    have hRb := cmp_bounds (m1 * d) (n * q)
                    have hZ := cmp_asc hord
                    obtain ⟨R1, hR1⟩ : ∃ x, Keep (cmpI (n * q) (m1 * d) = x) := ⟨_, ⟨rfl⟩⟩
                    obtain ⟨R2, hR2⟩ : ∃ x, Keep (cmpI (m1 * d) (n * q) = x) := ⟨_, ⟨rfl⟩⟩
                    obtain ⟨Z, hZ2⟩ : ∃ x, Keep (cmpI (sn * sq) (sm * sd) = x) := ⟨_, ⟨rfl⟩⟩
                    rw [hR1.out] at q54a hR
                    rw [hR2.out] at q54b hR hRb
                    rw [hZ2.out] at q54s hZ
                    have wR : IntKind.i64.wrap (-R2) = R1 := by rw [hR]; exact IntWalk.i64_in _ (by omega)
                    have hZ0 : ¬ 0 < Z := by omega
                    have wj : IntKind.i64.wrap ((i1 : Int) - 1) = (j : Int) := by have := hj.out; rw [IntWalk.i64_in _ (by omega)]; omega
                    have hltI : (i1 : Int) < (k : Int) := by omega
                    unfold fracV at q54a q54b q54s
                    clear hR hRb hZ hR1 hR2 hZ2 kf kg ksf ksg hord e1' e2'
                    go_wp2
                    refine (wpIn_wide (n := 0)).1 ?_
                    refine Many.region_many (Go.Proofs.Ytbocmbhinjkjlaa.Cb wr) mixed_ok (by kernel_rfl) (fun _ _ _ _ h => h) (fun s _ => Go.Proofs.Ytbocmbhinjkjlaa.Cb.start wr s) ?_
                    refine Many.lex_want (by rfl) (rdb (fun w hb => by (go_simp; try rfl))) ?_
                    simp only [Act.put, List.setIfInBounds_toArray, List.set_cons_succ, List.set_cons_zero, Nat.reduceAdd]
                    refine Many.lex_want (by rfl) (rdb (fun w hb => by (go_simp; try rfl))) ?_
                    simp only [Act.put, List.setIfInBounds_toArray, List.set_cons_succ, List.set_cons_zero, Nat.reduceAdd]
                    refine Many.lex_want (by rfl) (rdb (v := .int .i64 (j : Nat)) (fun w hb => by (skip; go_simp; try rfl))) ?_
                    simp only [Act.put, List.setIfInBounds_toArray, List.set_cons_succ, List.set_cons_zero, Nat.reduceAdd]
                    refine Many.lex_want (by rfl) (rdb (v := .pointer (some ⟨gp, op + j * 2, none⟩)) (fun w hb => by (skip; go_simp; try rfl))) ?_
                    simp only [Act.put, List.setIfInBounds_toArray, List.set_cons_succ, List.set_cons_zero, Nat.reduceAdd]
                    refine Many.lex_want (by rfl) (rdb (v := .agg #[.int .i64 n, .int .i64 d]) (fun w hb => by (have c0 := cell_below hf1 hb; have c1 := cell_below hf2 hb; go_simp; try rfl))) ?_
                    simp only [Act.put, List.setIfInBounds_toArray, List.set_cons_succ, List.set_cons_zero, Nat.reduceAdd]
                    refine Many.lex_want (by rfl) (rdb (fun w hb => by (go_simp; try rfl))) ?_
                    simp only [Act.put, List.setIfInBounds_toArray, List.set_cons_succ, List.set_cons_zero, Nat.reduceAdd]
                    refine Many.lex_want (by rfl) (rdb (fun w hb => by (go_simp; try rfl))) ?_
                    simp only [Act.put, List.setIfInBounds_toArray, List.set_cons_succ, List.set_cons_zero, Nat.reduceAdd]
                    refine Many.lex_want (by rfl) (rdb (v := .pointer (some ⟨gp, op + i1 * 2, none⟩)) (fun w hb => by (skip; go_simp; try rfl))) ?_
                    simp only [Act.put, List.setIfInBounds_toArray, List.set_cons_succ, List.set_cons_zero, Nat.reduceAdd]
                    refine Many.lex_want (by rfl) (rdb (v := .agg #[.int .i64 m1, .int .i64 q]) (fun w hb => by (have c0 := cell_below hg1 hb; have c1 := cell_below hg2 hb; go_simp; try rfl))) ?_
                    simp only [Act.put, List.setIfInBounds_toArray, List.set_cons_succ, List.set_cons_zero, Nat.reduceAdd]
                    refine Many.lex_want (by rfl) (clb q54a (fun w hb => by (go_simp; try rfl))) ?_
                    simp only [Act.put, List.setIfInBounds_toArray, List.set_cons_succ, List.set_cons_zero, Nat.reduceAdd]
                    refine Many.lex_want (by rfl) (rdb (fun w hb => by (go_simp; try rfl))) ?_
                    simp only [Act.put, List.setIfInBounds_toArray, List.set_cons_succ, List.set_cons_zero, Nat.reduceAdd]
                    refine Many.lex_want (by rfl) (rdb (fun w hb => by (go_simp; try rfl))) ?_
                    simp only [Act.put, List.setIfInBounds_toArray, List.set_cons_succ, List.set_cons_zero, Nat.reduceAdd]
                    refine Many.lex_want (by rfl) (rdb (fun w hb => by (go_simp; try rfl))) ?_
                    simp only [Act.put, List.setIfInBounds_toArray, List.set_cons_succ, List.set_cons_zero, Nat.reduceAdd]
                    refine Many.lex_want (by rfl) (rdb (fun w hb => by (go_simp; try rfl))) ?_
                    simp only [Act.put, List.setIfInBounds_toArray, List.set_cons_succ, List.set_cons_zero, Nat.reduceAdd]
                    refine Many.lex_want (by rfl) (rdb (fun w hb => by (go_simp; try rfl))) ?_
                    simp only [Act.put, List.setIfInBounds_toArray, List.set_cons_succ, List.set_cons_zero, Nat.reduceAdd]
                    refine Many.lex_nil fun s V1 hs hC => ?_
                    have hC : Below wr.heap.size wr V1 := hC
                    have hbV1 := hbr.trans (hC.mono hbrz)
                    have hf1 := cell_below hf1 hC
                    have hf2 := cell_below hf2 hC
                    have hg1 := cell_below hg1 hC
                    have hg2 := cell_below hg2 hC
                    have hsf1 := cell_below hsf1 hC
                    have hsf2 := cell_below hsf2 hC
                    have hsg1 := cell_below hsg1 hC
                    have hsg2 := cell_below hsg2 hC
                    clear hC hs q54a
                    go_wp2
                    refine (wpIn_wide (n := 0)).1 ?_
                    refine Many.region_many (Go.Proofs.Ytbocmbhinjkjlaa.Cb V1) mixed_ok (by kernel_rfl) (fun _ _ _ _ h => h) (fun s _ => Go.Proofs.Ytbocmbhinjkjlaa.Cb.start V1 s) ?_
                    refine Many.lex_want (by rfl) (rdb (fun w hb => by (go_simp; try rfl))) ?_
                    simp only [Act.put, List.setIfInBounds_toArray, List.set_cons_succ, List.set_cons_zero, Nat.reduceAdd]
                    refine Many.lex_want (by rfl) (rdb (fun w hb => by (go_simp; try rfl))) ?_
                    simp only [Act.put, List.setIfInBounds_toArray, List.set_cons_succ, List.set_cons_zero, Nat.reduceAdd]
                    refine Many.lex_want (by rfl) (rdb (v := .pointer (some ⟨gp, op + i1 * 2, none⟩)) (fun w hb => by (skip; go_simp; try rfl))) ?_
                    simp only [Act.put, List.setIfInBounds_toArray, List.set_cons_succ, List.set_cons_zero, Nat.reduceAdd]
                    refine Many.lex_want (by rfl) (rdb (v := .agg #[.int .i64 m1, .int .i64 q]) (fun w hb => by (have c0 := cell_below hg1 hb; have c1 := cell_below hg2 hb; go_simp; try rfl))) ?_
                    simp only [Act.put, List.setIfInBounds_toArray, List.set_cons_succ, List.set_cons_zero, Nat.reduceAdd]
                    refine Many.lex_want (by rfl) (rdb (fun w hb => by (go_simp; try rfl))) ?_
                    simp only [Act.put, List.setIfInBounds_toArray, List.set_cons_succ, List.set_cons_zero, Nat.reduceAdd]
                    refine Many.lex_want (by rfl) (rdb (fun w hb => by (go_simp; try rfl))) ?_
                    simp only [Act.put, List.setIfInBounds_toArray, List.set_cons_succ, List.set_cons_zero, Nat.reduceAdd]
                    refine Many.lex_want (by rfl) (rdb (v := .int .i64 (j : Nat)) (fun w hb => by (skip; go_simp; try rfl))) ?_
                    simp only [Act.put, List.setIfInBounds_toArray, List.set_cons_succ, List.set_cons_zero, Nat.reduceAdd]
                    refine Many.lex_want (by rfl) (rdb (v := .pointer (some ⟨gp, op + j * 2, none⟩)) (fun w hb => by (skip; go_simp; try rfl))) ?_
                    simp only [Act.put, List.setIfInBounds_toArray, List.set_cons_succ, List.set_cons_zero, Nat.reduceAdd]
                    refine Many.lex_want (by rfl) (rdb (v := .agg #[.int .i64 n, .int .i64 d]) (fun w hb => by (have c0 := cell_below hf1 hb; have c1 := cell_below hf2 hb; go_simp; try rfl))) ?_
                    simp only [Act.put, List.setIfInBounds_toArray, List.set_cons_succ, List.set_cons_zero, Nat.reduceAdd]
                    refine Many.lex_want (by rfl) (clb q54b (fun w hb => by (go_simp; try rfl))) ?_
                    simp only [Act.put, List.setIfInBounds_toArray, List.set_cons_succ, List.set_cons_zero, Nat.reduceAdd]
                    refine Many.lex_want (by rfl) (rdb (fun w hb => by (go_simp; try rfl))) ?_
                    simp only [Act.put, List.setIfInBounds_toArray, List.set_cons_succ, List.set_cons_zero, Nat.reduceAdd]
                    refine Many.lex_want (by rfl) (rdb (fun w hb => by (go_simp; try rfl))) ?_
                    simp only [Act.put, List.setIfInBounds_toArray, List.set_cons_succ, List.set_cons_zero, Nat.reduceAdd]
                    refine Many.lex_want (by rfl) (rdb (fun w hb => by (go_simp; try rfl))) ?_
                    simp only [Act.put, List.setIfInBounds_toArray, List.set_cons_succ, List.set_cons_zero, Nat.reduceAdd]
                    refine Many.lex_want (by rfl) (rdb (fun w hb => by (go_simp; try rfl))) ?_
                    simp only [Act.put, List.setIfInBounds_toArray, List.set_cons_succ, List.set_cons_zero, Nat.reduceAdd]
                    refine Many.lex_want (by rfl) (rdb (fun w hb => by (go_simp; try rfl))) ?_
                    simp only [Act.put, List.setIfInBounds_toArray, List.set_cons_succ, List.set_cons_zero, Nat.reduceAdd]
                    refine Many.lex_nil fun s V2 hs hC => ?_
                    have hC : Below V1.heap.size V1 V2 := hC
                    have hbV2 := hbV1.trans (hC.mono hbV1.size)
                    have hf1 := cell_below hf1 hC
                    have hf2 := cell_below hf2 hC
                    have hg1 := cell_below hg1 hC
                    have hg2 := cell_below hg2 hC
                    have hsf1 := cell_below hsf1 hC
                    have hsf2 := cell_below hsf2 hC
                    have hsg1 := cell_below hsg1 hC
                    have hsg2 := cell_below hsg2 hC
                    clear hC hs q54b
                    go_wp2
                    refine (wpIn_wide (n := 0)).1 ?_
                    refine Many.region_many (Go.Proofs.Ytbocmbhinjkjlaa.Cb V2) mixed_ok (by kernel_rfl) (fun _ _ _ _ h => h) (fun s _ => Go.Proofs.Ytbocmbhinjkjlaa.Cb.start V2 s) ?_
                    refine Many.lex_want (by rfl) (rdb (fun w hb => by (go_simp; try rfl))) ?_
                    simp only [Act.put, List.setIfInBounds_toArray, List.set_cons_succ, List.set_cons_zero, Nat.reduceAdd]
                    refine Many.lex_want (by rfl) (rdb (fun w hb => by (go_simp; try rfl))) ?_
                    simp only [Act.put, List.setIfInBounds_toArray, List.set_cons_succ, List.set_cons_zero, Nat.reduceAdd]
                    refine Many.lex_want (by rfl) (rdb (v := .int .i64 (j : Nat)) (fun w hb => by (skip; go_simp; try rfl))) ?_
                    simp only [Act.put, List.setIfInBounds_toArray, List.set_cons_succ, List.set_cons_zero, Nat.reduceAdd]
                    refine Many.lex_want (by rfl) (rdb (v := .pointer (some ⟨gs, os + j * 2, none⟩)) (fun w hb => by (skip; go_simp; try rfl))) ?_
                    simp only [Act.put, List.setIfInBounds_toArray, List.set_cons_succ, List.set_cons_zero, Nat.reduceAdd]
                    refine Many.lex_want (by rfl) (rdb (v := .agg #[.int .i64 sn, .int .i64 sd]) (fun w hb => by (have c0 := cell_below hsf1 hb; have c1 := cell_below hsf2 hb; go_simp; try rfl))) ?_
                    simp only [Act.put, List.setIfInBounds_toArray, List.set_cons_succ, List.set_cons_zero, Nat.reduceAdd]
                    refine Many.lex_want (by rfl) (rdb (fun w hb => by (go_simp; try rfl))) ?_
                    simp only [Act.put, List.setIfInBounds_toArray, List.set_cons_succ, List.set_cons_zero, Nat.reduceAdd]
                    refine Many.lex_want (by rfl) (rdb (fun w hb => by (go_simp; try rfl))) ?_
                    simp only [Act.put, List.setIfInBounds_toArray, List.set_cons_succ, List.set_cons_zero, Nat.reduceAdd]
                    refine Many.lex_want (by rfl) (rdb (v := .pointer (some ⟨gs, os + i1 * 2, none⟩)) (fun w hb => by (skip; go_simp; try rfl))) ?_
                    simp only [Act.put, List.setIfInBounds_toArray, List.set_cons_succ, List.set_cons_zero, Nat.reduceAdd]
                    refine Many.lex_want (by rfl) (rdb (v := .agg #[.int .i64 sm, .int .i64 sq]) (fun w hb => by (have c0 := cell_below hsg1 hb; have c1 := cell_below hsg2 hb; go_simp; try rfl))) ?_
                    simp only [Act.put, List.setIfInBounds_toArray, List.set_cons_succ, List.set_cons_zero, Nat.reduceAdd]
                    refine Many.lex_want (by rfl) (clb q54s (fun w hb => by (go_simp; try rfl))) ?_
                    simp only [Act.put, List.setIfInBounds_toArray, List.set_cons_succ, List.set_cons_zero, Nat.reduceAdd]
                    refine Many.lex_want (by rfl) (rdb (fun w hb => by (go_simp; try rfl))) ?_
                    simp only [Act.put, List.setIfInBounds_toArray, List.set_cons_succ, List.set_cons_zero, Nat.reduceAdd]
                    refine Many.lex_want (by rfl) (rdb (fun w hb => by (go_simp; try rfl))) ?_
                    simp only [Act.put, List.setIfInBounds_toArray, List.set_cons_succ, List.set_cons_zero, Nat.reduceAdd]
                    refine Many.lex_want (by rfl) (rdb (fun w hb => by (go_simp; try rfl))) ?_
                    simp only [Act.put, List.setIfInBounds_toArray, List.set_cons_succ, List.set_cons_zero, Nat.reduceAdd]
                    refine Many.lex_want (by rfl) (rdb (fun w hb => by (go_simp; try rfl))) ?_
                    simp only [Act.put, List.setIfInBounds_toArray, List.set_cons_succ, List.set_cons_zero, Nat.reduceAdd]
                    refine Many.lex_want (by rfl) (rdb (fun w hb => by (go_simp; try rfl))) ?_
                    simp only [Act.put, List.setIfInBounds_toArray, List.set_cons_succ, List.set_cons_zero, Nat.reduceAdd]
                    refine Many.lex_nil fun s V3 hs hC => ?_
                    have hC : Below V2.heap.size V2 V3 := hC
                    have hbV3 := hbV2.trans (hC.mono hbV2.size)
                    clear hC hs q54s
                    go_wp2
                    exact ⟨⟨i1 + 1, by omega, by omega, by go_num, hbV3⟩, by simp [intOf]; omega⟩
                  · have hltI : ¬ (i1 : Int) < (k : Int) := by omega
                    have hbX := hbW13.trans (hbr.mono hbW13.size)
                    go_wp2_with (go_at_call 25; refine (awake_any _).mono ?_; rintro e V9 ⟨rfl, hb9⟩)
                    go_ret
                    exact ⟨rfl, hbX.trans (hb9.mono hbX.size)⟩
    · have h1x : ¬ (m : Int) + 1 < (zs.length : Int) := by omega
      have hk5' : (k : Int) ≤ 5 := by omega
      clear hm2 w2
      obtain ⟨W2, hW2⟩ : ∃ W2, Keep (wr = W2) := ⟨_, ⟨rfl⟩⟩
      have hfr := own_fracs hown.out
      have hownW := hown
      have hbwW := hbw
      rw [hW2.out] at hfr hownW hbwW
      have hfK : Keep (∀ e, e < ps.length → ∃ g o, C = some ⟨g, o, none⟩ ∧ W2.cell? ⟨g, o + e * 2, none⟩ = some (.int .i64 (ps.getD e (0, 0)).1) ∧ W2.cell? ⟨g, o + e * 2 + 1, none⟩ = some (.int .i64 (ps.getD e (0, 0)).2)) := ⟨by
        obtain ⟨A', c', hv', hc'⟩ := hfr
        injection hv' with e1 e2 e3
        subst e1
        exact hc'⟩
      clear hcK hown hbw hbz hfr
      go_wp2
      rw [hW2.out]
      clear hW2
      go_loopw [6, 4] (fun i b wq => ∃ e1 : Nat, ∃ bs : Pts, e1 ≤ k ∧ ((i = .int .i64 (-1) ∧ e1 = 0) ∨ (∃ e : Nat, e1 = e + 1 ∧ i = .int .i64 e)) ∧ Keep (bs.length = k - e1) ∧ Keep (bs.Perm (ps.drop e1)) ∧ Keep (wq.ownsRow W2.heap.size 37 2 b bs.length (enc2 bs)) ∧ (∃ C c, b = .slice C bs.length c) ∧ Below W2.heap.size W2 wq) (fun i _ _ => (intOf i + 1).toNat)
      case atStart =>
        refine ⟨k, [], Nat.le_refl _, ?_, ⟨by simp⟩, ⟨by rw [List.drop_of_length_le (by omega)]⟩, ⟨World.ownsRow_nil _ _ _ _⟩, ⟨none, 0, rfl⟩, Below.refl _ _⟩
        rcases Nat.eq_zero_or_pos k with h | h
        · exact .inl ⟨by subst h; go_num, h⟩
        · exact .inr ⟨k - 1, by omega, by congr 1; omega⟩
      case round =>
        obtain ⟨e1, bs, he1, hcase, hbl, hperm, hownb, ⟨Cb, cb, rfl⟩, hbb⟩ := hrel
        have hbbz := hbb.size
        rcases hcase with ⟨rfl, rfl⟩ | ⟨e, rfl, rfl⟩
        case inr =>
          have hep : e < ps.length := by omega
          obtain ⟨g2, o2, rfl, hz1, hz2⟩ := hfK.out e hep
          have hz1 := cell_below hz1 hbb
          have hz2 := cell_below hz2 hbb
          have hperm2 := Keep.mk (perm_push hep hperm.out)
          have heK : (e : Int) < (k : Int) := by omega
          have hek : e < k := by omega
          generalize ps.getD e (0, 0) = z at *
          obtain ⟨n, d⟩ := z
          simp only at hz1 hz2
          have hownA := own_after hownb.out ((Below.refl wr.heap.size wr).alloc (Nat.le_refl _) (.cells #[.int .i64 n, .int .i64 d] 37))
          have hnewsA := alloc_cells wr n d
          have hszA : W2.heap.size ≤ (wr.alloc (.cells #[.int .i64 n, .int .i64 d] 37)).heap.size := by simp; omega
          have hbl2 : bs.length ≤ 10 := by have := hbl.out; omega
          go_wp2_with (at_builtin; go_loud (
            refine wpList_append_own _ rfl _ _ 24 rfl W2.heap.size 37 i0 (.agg #[.int .i64 0, .int .i64 0]) 2 16 ty24 hi hz0 hz1' hz2' rfl (by decide) _ bs.length (enc2 bs) rfl hownA ⟨wr.heap.size, 0, none⟩ 1 1 [.int .i64 n, .int .i64 d] rfl rfl hnewsA (fun u hu => by simp only [List.mem_cons, List.not_mem_nil, or_false] at hu; rcases hu with rfl | rfl <;> rfl) (by unfold maxLen; omega) (by omega) hszA ?_
            intro v' w3 hown' hgrow3 hnil3
            have hbw3 : Below W2.heap.size W2 w3 := (hbb.alloc hbbz (.cells #[.int .i64 n, .int .i64 d] 37)).grown hgrow3 hszA (fun q hq => by
              rcases hownA.2 with ⟨h, _⟩ | ⟨gg, cc, cur, hh, hg', _⟩
              · injection h with h1 _ _; subst h1; cases hq
              · injection hh with h1 _ _; subst h1; cases hq; exact hg')
            rw [← enc2_push] at hown'
            obtain ⟨C3, c3, hv3⟩ := own_shape hown'
            subst hv3))
          refine ⟨⟨e, bs ++ [(n, d)], by omega, ?_, ⟨by have := hbl.out; rw [List.length_append]; simp; omega⟩, hperm2, ⟨by rw [List.length_append]; exact hown'⟩, ⟨C3, c3, by rw [List.length_append]; rfl⟩, hbw3⟩, by simp [intOf]; try omega⟩
          rcases Nat.eq_zero_or_pos e with h | h
          · exact .inl ⟨by subst h; go_num, h⟩
          · exact .inr ⟨e - 1, by omega, by first | (congr 1; omega) | (rw [IntWalk.i64_in _ (by omega)]; congr 1; omega)⟩
        case inl =>
          have hpb : Keep (bs.Perm ps) := ⟨by simpa using hperm.out⟩
          have hownL := own_after hownW.out hbb
          obtain ⟨W3, hW3⟩ : ∃ W3, Keep (wr = W3) := ⟨_, ⟨rfl⟩⟩
          have hbw03 := hbwW.trans (hbb.mono hbwW.size)
          have hownB := hownb.out
          rw [hW3.out] at hownL hbw03 hownB
          have hb23 := hbb
          rw [hW3.out] at hb23
          have hps11 : ps.take 11 = ps := List.take_of_length_le (by omega)
          have q21 := fracs_any (own_arg hownL)
          rw [hps11] at q21
          have hownLK := Keep.mk hownL
          have hownBK := Keep.mk hownB
          clear hownb hperm hbl hbb hbbz hownL hownB hownW hps11
          go_wp2_with (go_at_call 21; (try rw [hW3.out]); (with_reducible refine q21.mono ?_); rintro e W4 ⟨v7, rfl, ho7, hb4⟩
                       obtain ⟨C7, c7, hv7⟩ := own_shape ho7
                       subst hv7)
          have ho7K : Keep (W4.ownsRow W3.heap.size 37 2 (.slice C7 k c7) ps.length (enc2 ps)) := ⟨by rw [← hpk]; exact ho7⟩
          clear ho7 q21 hW3
          go_loopw [8, 7] (fun i b wq => ∃ j : Nat, ∃ qs : Pts, j ≤ k ∧ i = .int .i64 j ∧ Keep (qs = ps ++ (ps.take j).map negP) ∧ Keep (wq.ownsRow W3.heap.size 37 2 b qs.length (enc2 qs)) ∧ (∃ C c, b = .slice C qs.length c) ∧ Below W3.heap.size W3 wq) (fun i _ _ => k - (intOf i).toNat)
          case atStart => exact ⟨0, ps, by omega, rfl, ⟨by simp⟩, ho7K, ⟨C7, c7, by rw [hpk]⟩, hb4⟩
          case round =>
            obtain ⟨j, qs, hj, rfl, hqs, hownq, ⟨Cq, cq, rfl⟩, hbq⟩ := hrel
            have hbqz := hbq.size
            by_cases hjk : j < k
            · have hjk' : (j : Int) < (k : Int) := by omega
              obtain ⟨g3, o3, rfl, hz1, hz2⟩ := hfK.out j (by omega)
              have hz1 := cell_below hz1 hb23
              have hz2 := cell_below hz2 hb23
              have hzo := hok.out _ (getp (l := ps) (k := j) (by omega))
              have hqs2 : Keep (qs ++ [negP (ps.getD j (0, 0))] = ps ++ (ps.take (j + 1)).map negP) := ⟨by rw [take_neg (by omega), hqs.out, List.append_assoc]⟩
              have hql : qs.length ≤ 1000 := by rw [hqs.out, List.length_append, List.length_map, List.length_take]; omega
              generalize ps.getD j (0, 0) = z at *
              obtain ⟨n, d⟩ := z
              obtain ⟨b1, b2, b3, b4, _⟩ := okT_bounds hzo
              simp only [negP] at hz1 hz2 hqs2 b1 b2 b3 b4
              obtain ⟨nn, hnn⟩ : ∃ x, Keep (-n = x) := ⟨_, ⟨rfl⟩⟩
              have wn : IntKind.i64.wrap (-n) = nn := by rw [← hnn.out]; exact IntWalk.i64_in _ (by omega)
              rw [hnn.out] at hqs2
              have hjz : ¬ (j : Int) < 0 := by omega
              clear hzo b1 b2 b3 b4 hnn
              go_wp2
              refine (wpIn_wide (n := 0)).1 ?_
              refine Inv.region_inv (fun t act W => ∃ gB, ∃ v2, act = { tmps := #[Value.slice A zs.length cap, undef, Value.bool false, Value.slice (some ⟨g3, o3, none⟩) k c, Value.slice Cb (List.length bs) cb, Value.int IntKind.i64 (m : Nat), Value.int IntKind.i64 (-1), if t 15 = true then v2 else Value.slice Cq (List.length qs) cq, Value.int IntKind.i64 (j : Nat), undef, undef, undef, undef, undef, undef, undef, undef, undef, undef, undef, undef, undef, undef, undef, undef, undef, Value.int IntKind.i64 (m : Nat), Value.int IntKind.i64 ((m : Int) + 1), Value.slice A zs.length cap, Value.int IntKind.i64 (zs.length : Nat), Value.bool false, Value.bool false, undef, undef, undef, Value.bool false, u36, u37, u38, u39, u40, u41, u42, u43, u44, u45, u46, u47, u48, u49, u50, u51, u52, u53, u54, Value.slice (some ⟨g3, o3, none⟩) k c, Value.int IntKind.i64 (k : Nat), Value.int IntKind.i64 (k - 1), Value.int IntKind.i64 (-1), Value.bool false, u60, u61, u62, u63, u64, u65, u66, u67, u68, Value.slice (some ⟨g3, o3, none⟩) k c, Value.slice C7 k c7, Value.int IntKind.i64 (j : Nat), Value.slice (some ⟨g3, o3, none⟩) k c, Value.int IntKind.i64 (k : Nat), Value.bool true, u75, u76, if t 0 = true then Value.slice Cq (List.length qs) cq else u77, if t 1 = true then Value.slice (some ⟨g3, o3, none⟩) k c else u78, if t 2 = true then .int .i64 j else u79, if t 3 = true then .pointer (some ⟨g3, o3 + j * 2, none⟩) else u80, if t 4 = true then .pointer (some ⟨g3, o3 + j * 2, none⟩) else u81, if t 5 = true then .int .i64 n else u82, if t 6 = true then .int .i64 nn else u83, if t 7 = true then Value.slice (some ⟨g3, o3, none⟩) k c else u84, if t 8 = true then .int .i64 j else u85, if t 9 = true then .pointer (some ⟨g3, o3 + j * 2, none⟩) else u86, if t 10 = true then .pointer (some ⟨g3, o3 + j * 2 + 1, none⟩) else u87, if t 11 = true then .int .i64 d else u88, if t 12 = true then .agg #[.int .i64 nn, .int .i64 d] else u89, if t 13 = true then .slice (some ⟨gB, 0, none⟩) 1 1 else u90, if t 14 = true then v2 else u91, undef, undef, undef, undef, undef, undef, undef, undef, undef, undef, undef, undef, undef, undef, undef, undef, undef, undef, undef, undef, undef, undef, undef, undef, undef, undef, undef, undef, undef, undef, undef, undef, undef, undef, undef, undef, undef, undef, undef, undef, undef, undef, undef, undef, undef, undef, undef, undef, undef, undef, undef, undef, undef, undef, undef, undef, undef, undef, undef, undef, undef, undef, undef, undef, undef, undef, undef, undef, undef, undef, undef, undef, undef, undef, undef, undef, undef, undef, undef, undef, undef, undef, undef, undef, undef, undef, undef, undef, undef, undef, undef, undef, undef, undef, undef, undef, undef, undef, undef, undef, undef, undef, undef, undef, undef, undef, undef, undef, undef, undef, undef, undef, undef, undef, undef, undef, undef, undef, undef, undef, undef, undef, undef, undef, undef, undef, undef, undef, undef, undef, undef, undef], defers := [] } ∧ ApI wr W3.heap.size 13 14 15 qs nn d (.slice Cq (List.length qs) cq) t gB v2 W) mixed_ok (by kernel_rfl) ?_ ?_ ?_
              · intro t hs
                refine ⟨0, undef, ?_, ApI.start hownq.out hbqz (hs 13 (by decide)) (hs 14 (by decide)) (hs 15 (by decide))⟩
                simp only [hs 0 (by decide), hs 1 (by decide), hs 2 (by decide), hs 3 (by decide), hs 4 (by decide), hs 5 (by decide), hs 6 (by decide), hs 7 (by decide), hs 8 (by decide), hs 9 (by decide), hs 10 (by decide), hs 11 (by decide), hs 12 (by decide), hs 13 (by decide), hs 14 (by decide), hs 15 (by decide), Bool.false_eq_true, if_false]
              · refine ⟨?_, ?_, ?_, ?_, ?_, ?_, ?_, ?_, ?_, ?_, ?_, ?_, ?_, ?_, ?_, ?_, trivial⟩
                · rintro t act W hun hdep hbeh ⟨gB, v2, rfl, hT⟩
                  (try simp only [Nat.reduceAdd] at hun)
                  have n14 : t 14 = false := hbeh 14 (by kernel_rfl)
                  have n15 : t 15 = false := hT.noS n14
                  refine .inl ⟨by rfl, Inv.comesV_val (Value.slice Cq (List.length qs) cq) W (by (simp only [n15, if_true, Bool.false_eq_true, if_false]; go_simp; try rfl)) ⟨gB, v2, by (simp only [Act.put, List.setIfInBounds_toArray, List.set_cons_succ, List.set_cons_zero, Manyd.upd, Nat.reduceAdd, Nat.reduceBEq, Bool.or_false, Bool.or_true, if_true]), ApI.keep (i := 0) (by decide) (by decide) (by decide) hT⟩⟩
                · rintro t act W hun hdep hbeh ⟨gB, v2, rfl, hT⟩
                  (try simp only [Nat.reduceAdd] at hun)
                  refine .inl ⟨by rfl, Inv.comesV_val (Value.slice (some ⟨g3, o3, none⟩) k c) W (by (go_simp; try rfl)) ⟨gB, v2, by (simp only [Act.put, List.setIfInBounds_toArray, List.set_cons_succ, List.set_cons_zero, Manyd.upd, Nat.reduceAdd, Nat.reduceBEq, Bool.or_false, Bool.or_true, if_true]), ApI.keep (i := 1) (by decide) (by decide) (by decide) hT⟩⟩
                · rintro t act W hun hdep hbeh ⟨gB, v2, rfl, hT⟩
                  (try simp only [Nat.reduceAdd] at hun)
                  refine .inl ⟨by rfl, Inv.comesV_val (.int .i64 j) W (by (go_simp; try rfl)) ⟨gB, v2, by (simp only [Act.put, List.setIfInBounds_toArray, List.set_cons_succ, List.set_cons_zero, Manyd.upd, Nat.reduceAdd, Nat.reduceBEq, Bool.or_false, Bool.or_true, if_true]), ApI.keep (i := 2) (by decide) (by decide) (by decide) hT⟩⟩
                · rintro t act W hun hdep hbeh ⟨gB, v2, rfl, hT⟩
                  (try simp only [Nat.reduceAdd] at hun)
                  have h1 : t 1 = true := Inv.depB_mem 1 hdep (by rfl)
                  have h2 : t 2 = true := Inv.depB_mem 2 hdep (by rfl)
                  refine .inl ⟨by rfl, Inv.comesV_val (.pointer (some ⟨g3, o3 + j * 2, none⟩)) W (by (simp only [h1, h2, if_true, Bool.false_eq_true, if_false]; go_simp; try rfl)) ⟨gB, v2, by (simp only [Act.put, List.setIfInBounds_toArray, List.set_cons_succ, List.set_cons_zero, Manyd.upd, Nat.reduceAdd, Nat.reduceBEq, Bool.or_false, Bool.or_true, if_true]), ApI.keep (i := 3) (by decide) (by decide) (by decide) hT⟩⟩
                · rintro t act W hun hdep hbeh ⟨gB, v2, rfl, hT⟩
                  (try simp only [Nat.reduceAdd] at hun)
                  have h3 : t 3 = true := Inv.depB_mem 3 hdep (by rfl)
                  refine .inl ⟨by rfl, Inv.comesV_val (.pointer (some ⟨g3, o3 + j * 2, none⟩)) W (by (simp only [h3, if_true, Bool.false_eq_true, if_false]; go_simp; try rfl)) ⟨gB, v2, by (simp only [Act.put, List.setIfInBounds_toArray, List.set_cons_succ, List.set_cons_zero, Manyd.upd, Nat.reduceAdd, Nat.reduceBEq, Bool.or_false, Bool.or_true, if_true]), ApI.keep (i := 4) (by decide) (by decide) (by decide) hT⟩⟩
                · rintro t act W hun hdep hbeh ⟨gB, v2, rfl, hT⟩
                  (try simp only [Nat.reduceAdd] at hun)
                  have h4 : t 4 = true := Inv.depB_mem 4 hdep (by rfl)
                  have c0 := cell_below hz1 (hbq.trans hT.bw)
                  refine .inl ⟨by rfl, Inv.comesV_val (.int .i64 n) W (by (simp only [h4, if_true, Bool.false_eq_true, if_false]; go_simp; try rfl)) ⟨gB, v2, by (simp only [Act.put, List.setIfInBounds_toArray, List.set_cons_succ, List.set_cons_zero, Manyd.upd, Nat.reduceAdd, Nat.reduceBEq, Bool.or_false, Bool.or_true, if_true]), ApI.keep (i := 5) (by decide) (by decide) (by decide) hT⟩⟩
                · rintro t act W hun hdep hbeh ⟨gB, v2, rfl, hT⟩
                  (try simp only [Nat.reduceAdd] at hun)
                  have h5 : t 5 = true := Inv.depB_mem 5 hdep (by rfl)
                  refine .inl ⟨by rfl, Inv.comesV_val (.int .i64 nn) W (by (simp only [h5, if_true, Bool.false_eq_true, if_false]; go_simp; try rfl)) ⟨gB, v2, by (simp only [Act.put, List.setIfInBounds_toArray, List.set_cons_succ, List.set_cons_zero, Manyd.upd, Nat.reduceAdd, Nat.reduceBEq, Bool.or_false, Bool.or_true, if_true]), ApI.keep (i := 6) (by decide) (by decide) (by decide) hT⟩⟩
                · rintro t act W hun hdep hbeh ⟨gB, v2, rfl, hT⟩
                  (try simp only [Nat.reduceAdd] at hun)
                  refine .inl ⟨by rfl, Inv.comesV_val (Value.slice (some ⟨g3, o3, none⟩) k c) W (by (go_simp; try rfl)) ⟨gB, v2, by (simp only [Act.put, List.setIfInBounds_toArray, List.set_cons_succ, List.set_cons_zero, Manyd.upd, Nat.reduceAdd, Nat.reduceBEq, Bool.or_false, Bool.or_true, if_true]), ApI.keep (i := 7) (by decide) (by decide) (by decide) hT⟩⟩
                · rintro t act W hun hdep hbeh ⟨gB, v2, rfl, hT⟩
                  (try simp only [Nat.reduceAdd] at hun)
                  refine .inl ⟨by rfl, Inv.comesV_val (.int .i64 j) W (by (go_simp; try rfl)) ⟨gB, v2, by (simp only [Act.put, List.setIfInBounds_toArray, List.set_cons_succ, List.set_cons_zero, Manyd.upd, Nat.reduceAdd, Nat.reduceBEq, Bool.or_false, Bool.or_true, if_true]), ApI.keep (i := 8) (by decide) (by decide) (by decide) hT⟩⟩
                · rintro t act W hun hdep hbeh ⟨gB, v2, rfl, hT⟩
                  (try simp only [Nat.reduceAdd] at hun)
                  have h7 : t 7 = true := Inv.depB_mem 7 hdep (by rfl)
                  have h8 : t 8 = true := Inv.depB_mem 8 hdep (by rfl)
                  refine .inl ⟨by rfl, Inv.comesV_val (.pointer (some ⟨g3, o3 + j * 2, none⟩)) W (by (simp only [h7, h8, if_true, Bool.false_eq_true, if_false]; go_simp; try rfl)) ⟨gB, v2, by (simp only [Act.put, List.setIfInBounds_toArray, List.set_cons_succ, List.set_cons_zero, Manyd.upd, Nat.reduceAdd, Nat.reduceBEq, Bool.or_false, Bool.or_true, if_true]), ApI.keep (i := 9) (by decide) (by decide) (by decide) hT⟩⟩
                · rintro t act W hun hdep hbeh ⟨gB, v2, rfl, hT⟩
                  (try simp only [Nat.reduceAdd] at hun)
                  have h9 : t 9 = true := Inv.depB_mem 9 hdep (by rfl)
                  refine .inl ⟨by rfl, Inv.comesV_val (.pointer (some ⟨g3, o3 + j * 2 + 1, none⟩)) W (by (simp only [h9, if_true, Bool.false_eq_true, if_false]; go_simp; try rfl)) ⟨gB, v2, by (simp only [Act.put, List.setIfInBounds_toArray, List.set_cons_succ, List.set_cons_zero, Manyd.upd, Nat.reduceAdd, Nat.reduceBEq, Bool.or_false, Bool.or_true, if_true]), ApI.keep (i := 10) (by decide) (by decide) (by decide) hT⟩⟩
                · rintro t act W hun hdep hbeh ⟨gB, v2, rfl, hT⟩
                  (try simp only [Nat.reduceAdd] at hun)
                  have h10 : t 10 = true := Inv.depB_mem 10 hdep (by rfl)
                  have c0 := cell_below hz2 (hbq.trans hT.bw)
                  refine .inl ⟨by rfl, Inv.comesV_val (.int .i64 d) W (by (simp only [h10, if_true, Bool.false_eq_true, if_false]; go_simp; try rfl)) ⟨gB, v2, by (simp only [Act.put, List.setIfInBounds_toArray, List.set_cons_succ, List.set_cons_zero, Manyd.upd, Nat.reduceAdd, Nat.reduceBEq, Bool.or_false, Bool.or_true, if_true]), ApI.keep (i := 11) (by decide) (by decide) (by decide) hT⟩⟩
                · rintro t act W hun hdep hbeh ⟨gB, v2, rfl, hT⟩
                  (try simp only [Nat.reduceAdd] at hun)
                  have h6 : t 6 = true := Inv.depB_mem 6 hdep (by rfl)
                  have h11 : t 11 = true := Inv.depB_mem 11 hdep (by rfl)
                  refine .inl ⟨by rfl, Inv.comesV_val (.agg #[.int .i64 nn, .int .i64 d]) W (by (simp only [h6, h11, if_true, Bool.false_eq_true, if_false]; go_simp; try rfl)) ⟨gB, v2, by (simp only [Act.put, List.setIfInBounds_toArray, List.set_cons_succ, List.set_cons_zero, Manyd.upd, Nat.reduceAdd, Nat.reduceBEq, Bool.or_false, Bool.or_true, if_true]), ApI.keep (i := 12) (by decide) (by decide) (by decide) hT⟩⟩
                · rintro t act W hun hdep hbeh ⟨gB, v2, rfl, hT⟩
                  (try simp only [Nat.reduceAdd] at hun)
                  have h12 : t 12 = true := Inv.depB_mem 12 hdep (by rfl)
                  refine .inl ⟨by rfl, Inv.comesV_val (.slice (some ⟨W.heap.size, 0, none⟩) 1 1) (W.alloc (.cells #[.int .i64 nn, .int .i64 d] 37)) (by (simp only [h12, if_true, Bool.false_eq_true, if_false]; go_simp; try rfl)) ⟨W.heap.size, v2, by (simp only [Act.put, List.setIfInBounds_toArray, List.set_cons_succ, List.set_cons_zero, Manyd.upd, Nat.reduceAdd, Nat.reduceBEq, Bool.or_false, Bool.or_true, if_true]), hT.laid (by decide) (by decide) hun⟩⟩
                · rintro t act W hun hdep hbeh ⟨gB, v2, rfl, hT⟩
                  (try simp only [Nat.reduceAdd] at hun)
                  have h0 : t 0 = true := Inv.depB_mem 0 hdep (by rfl)
                  have h13 : t 13 = true := Inv.depB_mem 13 hdep (by rfl)
                  obtain ⟨v3, W3, hrun, hT3⟩ := hT.grow 24 (by decide) (by decide) hql h13 hun
                  have nS : t 15 = false := hT.noS hun
                  refine .inl ⟨by rfl, Inv.comesV_val v3 W3 (Inv.exec_append (t := 24) (s := .tmp 77) (x := .tmp 90) rfl (by (simp only [h0, h13, if_true, Bool.false_eq_true, if_false]; go_simp; try rfl)) (by (simp only [h0, h13, if_true, Bool.false_eq_true, if_false]; go_simp; try rfl)) hrun) ⟨gB, v3, by (simp only [Act.put, List.setIfInBounds_toArray, List.set_cons_succ, List.set_cons_zero, Manyd.upd, Nat.reduceAdd, Nat.reduceBEq, Bool.or_false, Bool.or_true, if_true, nS, Bool.false_eq_true, if_false]), hT3⟩⟩
                · rintro t act W hun hdep hbeh ⟨gB, v2, rfl, hT⟩
                  (try simp only [Nat.reduceAdd] at hun)
                  have h14 : t 14 = true := Inv.depB_mem 14 hdep (by rfl)
                  refine .inl ⟨by rfl, Inv.comesV_val (v2) W (by (simp only [h14, if_true, Bool.false_eq_true, if_false]; go_simp; try rfl)) ⟨gB, v2, by (simp only [Act.put, List.setIfInBounds_toArray, List.set_cons_succ, List.set_cons_zero, Manyd.upd, Nat.reduceAdd, Nat.reduceBEq, Bool.or_false, Bool.or_true, if_true]), ApI.assign (by decide) (by decide) h14 hT⟩⟩
              rintro t a' W5 hs ⟨gB, v2, rfl, hT⟩
              simp only [hs 0 (by decide), hs 1 (by decide), hs 2 (by decide), hs 3 (by decide), hs 4 (by decide), hs 5 (by decide), hs 6 (by decide), hs 7 (by decide), hs 8 (by decide), hs 9 (by decide), hs 10 (by decide), hs 11 (by decide), hs 12 (by decide), hs 13 (by decide), hs 14 (by decide), hs 15 (by decide), if_true]
              have hres := hT.res (hs 14 (by decide))
              obtain ⟨C8, c8, rfl⟩ := own_shape hres
              have hbq2 := hbq.trans hT.bw
              clear hT hs
              go_wp2
              exact ⟨⟨j + 1, qs ++ [(nn, d)], by omega, by go_num, hqs2, ⟨by rw [List.length_append]; exact hres⟩, ⟨C8, c8, by rw [List.length_append]; rfl⟩, hbq2⟩, by simp [intOf]; omega⟩
            · obtain rfl : j = k := by omega
              have hqs3 : Keep (qs = ps ++ ps.map negP) := ⟨by rw [hqs.out, List.take_of_length_le (by omega)]⟩
              have hb3r := hbq
              have hF3 : F3 wr (.slice C j c) (.slice Cb bs.length cb) (.slice Cq qs.length cq) ps bs qs := ⟨fracsO_below (by have h := own_fracs hownLK.out; exact h) hb3r, fracsO_below (own_fracs hownBK.out) hb3r, own_fracs hownq.out⟩
              have hbW5 := hbw03.trans (hbq.mono hbw03.size)
              have dP : okTs ps = true := decide_eq_true ⟨by omega, hok.out⟩
              have dB : okTs bs = true := decide_eq_true ⟨by rw [hpb.out.length_eq]; omega, fun z hz => hok.out z (hpb.out.mem_iff.1 hz)⟩
              have dQ : okTs qs = true := decide_eq_true ⟨by rw [hqs3.out, List.length_append, List.length_map]; omega, fun z hz => by
                rw [hqs3.out] at hz
                rcases List.mem_append.1 hz with h | h
                · exact hok.out z h
                · obtain ⟨y, hy, rfl⟩ := List.mem_map.1 h
                  exact okT_neg (hok.out y hy)⟩
              have q49p := fun w v h => sum_yes (v := v) (w := w) (l := ps) h (okTs_wide dP) dP
              have q49b := fun w v h => sum_yes (v := v) (w := w) (l := bs) h (okTs_wide dB) dB
              have q49q := fun w v h => sum_yes (v := v) (w := w) (l := qs) h (okTs_wide dQ) dQ
              rw [sumT_perm hpb.out] at q49b
              rw [hqs3.out, sumT_both, redV_zero (by decide), ← hqs3.out] at q49q
              unfold redV at q49p q49b
              obtain ⟨a0, ha0⟩ : ∃ x, Keep (redN (sumT ps) MM = x) := ⟨_, ⟨rfl⟩⟩
              obtain ⟨a1, ha1⟩ : ∃ x, Keep (redD (sumT ps) MM = x) := ⟨_, ⟨rfl⟩⟩
              rw [ha0.out, ha1.out] at q49p q49b
              unfold fracV at q49p q49b q49q
              have q50 := fun w v h => sortedFn_yes (v := v) (w := w) (l := ps) h (okTs_wide dP) dP
              have hok2 := hok
              clear hownLK hownBK hownq hqs hqs3 hb3r hbq hbqz dB dQ ha0 ha1 ho7K hb4 hfK hb23 hbw03 hbwW hpb hjk hj
              go_wp2_with (first
                | (go_at_call 49; (with_reducible refine (q49p _ _ hF3.fa).mono ?_); rintro e w6 ⟨rfl, hb6⟩
                   obtain ⟨w7, hw7⟩ : ∃ w7, Keep (w6.alloc (.cells #[.int .i64 a0, .int .i64 a1] 37) = w7) := ⟨_, ⟨rfl⟩⟩
                   have hb7 : Below w6.heap.size w6 w7 := by rw [← hw7.out]; exact (Below.refl _ _).alloc (Nat.le_refl _) _
                   have o9 : Own2 w7 w6.heap.size (.int .i64 a0) (.int .i64 a1) := by rw [← hw7.out]; exact Own2.new _ _ _ _
                   have hF3 := (hF3.after hb6).after hb7
                   have hbW7 := hbW5.trans ((hb6.mono hbW5.size).trans (hb7.mono (Nat.le_trans hbW5.size hb6.size)))
                   clear q49p hb6 hb7 hbW5)
                | (go_at_call 49; (try rw [hw7.out]); (with_reducible refine (q49b _ _ hF3.fb).mono ?_); rintro e w8 ⟨rfl, hb8⟩
                   obtain ⟨w9, hw9⟩ : ∃ w9, Keep (w8.alloc (.cells #[.int .i64 a0, .int .i64 a1] 37) = w9) := ⟨_, ⟨rfl⟩⟩
                   have hb9 : Below w8.heap.size w8 w9 := by rw [← hw9.out]; exact (Below.refl _ _).alloc (Nat.le_refl _) _
                   have o11 : Own2 w9 w8.heap.size (.int .i64 a0) (.int .i64 a1) := by rw [← hw9.out]; exact Own2.new _ _ _ _
                   have hF3 := (hF3.after hb8).after hb9
                   have o9 := (o9.after hb8).after hb9
                   have hbW9 := hbW7.trans ((hb8.mono hbW7.size).trans (hb9.mono (Nat.le_trans hbW7.size hb8.size)))
                   clear q49b hb8 hb9 hbW7)
                | (go_at_call 49; (try rw [hw9.out]); (with_reducible refine (q49q _ _ hF3.fc).mono ?_); rintro e w10 ⟨rfl, hb10⟩
                   obtain ⟨w11, hw11⟩ : ∃ w11, Keep (w10.alloc (.cells #[.int .i64 0, .int .i64 1] 37) = w11) := ⟨_, ⟨rfl⟩⟩
                   have hb11 : Below w10.heap.size w10 w11 := by rw [← hw11.out]; exact (Below.refl _ _).alloc (Nat.le_refl _) _
                   have o13 : Own2 w11 w10.heap.size (.int .i64 0) (.int .i64 1) := by rw [← hw11.out]; exact Own2.new _ _ _ _
                   have hF3 := (hF3.after hb10).after hb11
                   have o9 := (o9.after hb10).after hb11
                   have o11 := (o11.after hb10).after hb11
                   have hbW11 := hbW9.trans ((hb10.mono hbW9.size).trans (hb11.mono (Nat.le_trans hbW9.size hb10.size)))
                   clear q49q hb10 hb11 hbW9)
                | (go_at_call 50; (try rw [hw11.out]); (with_reducible refine (q50 _ _ hF3.fa).mono ?_); rintro e w12 ⟨v15, sl, rfl, hs15, hasc, hb12⟩
                   have hF3 := hF3.after hb12
                   have o9 := o9.after hb12
                   have o11 := o11.after hb12
                   have o13 := o13.after hb12
                   have hbW12 := hbW11.trans (hb12.mono hbW11.size)
                   have dS : okTs sl = true := decide_eq_true ⟨by rw [hasc.perm.length_eq]; omega, fun z hz => hok2.out z (hasc.perm.mem_iff.1 hz)⟩
                   have q50s := fun w v h => sortedFn_yes (v := v) (w := w) (l := sl) h (okTs_wide dS) dS
                   clear q50 hb12 hbW11)
                | (go_at_call 50; (with_reducible refine (q50s _ _ hs15).mono ?_); rintro e w13 ⟨v17, tl, rfl, hs17, hasc2, hb13⟩
                   have hF3 := hF3.after hb13
                   have o9 := o9.after hb13
                   have o11 := o11.after hb13
                   have o13 := o13.after hb13
                   have hs15 := fracsO_below hs15 hb13
                   have hbW13 := hbW12.trans (hb13.mono hbW12.size)
                   obtain rfl : sl = tl := asc_asc hasc hasc2 hok2.out
                   clear q50s hb13 hbW12 hasc2 dS))
              have hsl : sl.length = j := by rw [hasc.perm.length_eq]; exact hpk
              obtain ⟨Cs, cs, rfl, hs15c⟩ := hs15
              rw [hsl]
              have q27 : ∀ w, Below w13.heap.size w13 w → Calls Try.prog 27 #[.slice Cs j cs, v17] w fun e w' => e = .returned (.bool true) ∧ Below w.heap.size w w' := fun w hb => by
                have h15 : FracsO w13 (.slice Cs j cs) sl := ⟨Cs, cs, by rw [hsl], hs15c⟩
                exact same_any (fracsO_below h15 hb) (fracsO_below hs17 hb) (by omega)
              have q29 := fun w => refWhole_any 0 w
              have eA := eqS a0 a1
              have eZ := eqS 0 1
              unfold fracV at q29
              generalize hK : j = k at *
              clear hK
              have hsK : Keep (∀ e, e < k → ∃ g o, Cs = some ⟨g, o, none⟩ ∧ w13.cell? ⟨g, o + e * 2, none⟩ = some (.int .i64 (sl.getD e (0, 0)).1) ∧ w13.cell? ⟨g, o + e * 2 + 1, none⟩ = some (.int .i64 (sl.getD e (0, 0)).2)) := ⟨fun e he => hs15c e (by omega)⟩
              have hpK : Keep (∀ e, e < k → ∃ g o, C = some ⟨g, o, none⟩ ∧ w13.cell? ⟨g, o + e * 2, none⟩ = some (.int .i64 (ps.getD e (0, 0)).1) ∧ w13.cell? ⟨g, o + e * 2 + 1, none⟩ = some (.int .i64 (ps.getD e (0, 0)).2)) := ⟨fun e he => frac_cells hpk hF3.fa e (by omega)⟩
              have hslK := Keep.mk hsl
              have hpkK := Keep.mk hpk
              clear hs15c hF3 hsl hpk dP
              go_wp2
              refine (wpIn_wide (n := 0)).1 ?_
              refine Many.region_many (Go.Proofs.Ytbocmbhinjkjlaa.Cb w13) mixed_ok (by kernel_rfl) (fun _ _ _ _ h => h) (fun s _ => Go.Proofs.Ytbocmbhinjkjlaa.Cb.start w13 s) ?_
              refine Many.lex_want (by rfl) (rdb (fun w hb => by (go_simp; try rfl))) ?_
              simp only [Act.put, List.setIfInBounds_toArray, List.set_cons_succ, List.set_cons_zero, Nat.reduceAdd]
              refine Many.lex_want (by rfl) (rdb (v := .bool false) (fun w hb => by (skip; go_simp; try rfl))) ?_
              simp only [Act.put, List.setIfInBounds_toArray, List.set_cons_succ, List.set_cons_zero, Nat.reduceAdd]
              refine Many.lex_want (by rfl) (rdb (v := .bool false) (fun w hb => by (skip; go_simp; try rfl))) ?_
              simp only [Act.put, List.setIfInBounds_toArray, List.set_cons_succ, List.set_cons_zero, Nat.reduceAdd]
              refine Many.lex_want (by rfl) (rdb (fun w hb => by (go_simp; try rfl))) ?_
              simp only [Act.put, List.setIfInBounds_toArray, List.set_cons_succ, List.set_cons_zero, Nat.reduceAdd]
              refine Many.lex_want (by rfl) (rdb (v := .bool false) (fun w hb => by (skip; go_simp; try rfl))) ?_
              simp only [Act.put, List.setIfInBounds_toArray, List.set_cons_succ, List.set_cons_zero, Nat.reduceAdd]
              refine Many.lex_want (by rfl) (rdb (v := .bool false) (fun w hb => by (skip; go_simp; try rfl))) ?_
              simp only [Act.put, List.setIfInBounds_toArray, List.set_cons_succ, List.set_cons_zero, Nat.reduceAdd]
              refine Many.lex_want (by rfl) (rdb (v := .bool false) (fun w hb => by (skip; go_simp; try rfl))) ?_
              simp only [Act.put, List.setIfInBounds_toArray, List.set_cons_succ, List.set_cons_zero, Nat.reduceAdd]
              refine Many.lex_want (by rfl) (rdb (fun w hb => by (go_simp; try rfl))) ?_
              simp only [Act.put, List.setIfInBounds_toArray, List.set_cons_succ, List.set_cons_zero, Nat.reduceAdd]
              refine Many.lex_want (by rfl) (rdb (v := .bool false) (fun w hb => by (skip; go_simp; try rfl))) ?_
              simp only [Act.put, List.setIfInBounds_toArray, List.set_cons_succ, List.set_cons_zero, Nat.reduceAdd]
              refine Many.lex_want (by rfl) (rdb (v := .bool false) (fun w hb => by (skip; go_simp; try rfl))) ?_
              simp only [Act.put, List.setIfInBounds_toArray, List.set_cons_succ, List.set_cons_zero, Nat.reduceAdd]
              refine Many.lex_want (by rfl) (rdb (v := .bool false) (fun w hb => by (skip; go_simp; try rfl))) ?_
              simp only [Act.put, List.setIfInBounds_toArray, List.set_cons_succ, List.set_cons_zero, Nat.reduceAdd]
              refine Many.lex_want (by rfl) (rdb (fun w hb => by (go_simp; try rfl))) ?_
              simp only [Act.put, List.setIfInBounds_toArray, List.set_cons_succ, List.set_cons_zero, Nat.reduceAdd]
              refine Many.lex_want (by rfl) (rdb (v := .bool false) (fun w hb => by (skip; go_simp; try rfl))) ?_
              simp only [Act.put, List.setIfInBounds_toArray, List.set_cons_succ, List.set_cons_zero, Nat.reduceAdd]
              refine Many.lex_want (by rfl) (rdb (v := .bool false) (fun w hb => by (skip; go_simp; try rfl))) ?_
              simp only [Act.put, List.setIfInBounds_toArray, List.set_cons_succ, List.set_cons_zero, Nat.reduceAdd]
              refine Many.lex_want (by rfl) (rdb (v := .bool false) (fun w hb => by (skip; go_simp; try rfl))) ?_
              simp only [Act.put, List.setIfInBounds_toArray, List.set_cons_succ, List.set_cons_zero, Nat.reduceAdd]
              refine Many.lex_want (by rfl) (rdb (fun w hb => by (go_simp; try rfl))) ?_
              simp only [Act.put, List.setIfInBounds_toArray, List.set_cons_succ, List.set_cons_zero, Nat.reduceAdd]
              refine Many.lex_want (by rfl) (rdb (v := .bool false) (fun w hb => by (skip; go_simp; try rfl))) ?_
              simp only [Act.put, List.setIfInBounds_toArray, List.set_cons_succ, List.set_cons_zero, Nat.reduceAdd]
              refine Many.lex_want (by rfl) (rdb (v := .bool false) (fun w hb => by (skip; go_simp; try rfl))) ?_
              simp only [Act.put, List.setIfInBounds_toArray, List.set_cons_succ, List.set_cons_zero, Nat.reduceAdd]
              refine Many.lex_want (by rfl) (rdb (v := .bool false) (fun w hb => by (skip; go_simp; try rfl))) ?_
              simp only [Act.put, List.setIfInBounds_toArray, List.set_cons_succ, List.set_cons_zero, Nat.reduceAdd]
              refine Many.lex_want (by rfl) (rdb (v := .agg #[.int .i64 a0, .int .i64 a1]) (fun w hb => by (obtain ⟨c0, c1, f0, f1⟩ := (o9).after hb; go_simp; try rfl))) ?_
              simp only [Act.put, List.setIfInBounds_toArray, List.set_cons_succ, List.set_cons_zero, Nat.reduceAdd]
              refine Many.lex_want (by rfl) (rdb (v := .agg #[.int .i64 a0, .int .i64 a1]) (fun w hb => by (obtain ⟨c0, c1, f0, f1⟩ := (o11).after hb; go_simp; try rfl))) ?_
              simp only [Act.put, List.setIfInBounds_toArray, List.set_cons_succ, List.set_cons_zero, Nat.reduceAdd]
              refine Many.lex_want (by rfl) (rdb (v := .bool false) (fun w hb => by (have e := eA; go_simp; try rfl))) ?_
              simp only [Act.put, List.setIfInBounds_toArray, List.set_cons_succ, List.set_cons_zero, Nat.reduceAdd]
              refine Many.lex_want (by rfl) (rdb (v := .bool false) (fun w hb => by (skip; go_simp; try rfl))) ?_
              simp only [Act.put, List.setIfInBounds_toArray, List.set_cons_succ, List.set_cons_zero, Nat.reduceAdd]
              refine Many.lex_want (by rfl) (rdb (v := .bool false) (fun w hb => by (skip; go_simp; try rfl))) ?_
              simp only [Act.put, List.setIfInBounds_toArray, List.set_cons_succ, List.set_cons_zero, Nat.reduceAdd]
              refine Many.lex_want (by rfl) (rdb (v := .agg #[.int .i64 0, .int .i64 1]) (fun w hb => by (obtain ⟨c0, c1, f0, f1⟩ := (o13).after hb; go_simp; try rfl))) ?_
              simp only [Act.put, List.setIfInBounds_toArray, List.set_cons_succ, List.set_cons_zero, Nat.reduceAdd]
              refine Many.lex_want (by rfl) (clb q29 (fun w hb => by (go_simp; try rfl))) ?_
              simp only [Act.put, List.setIfInBounds_toArray, List.set_cons_succ, List.set_cons_zero, Nat.reduceAdd]
              refine Many.lex_want (by rfl) (rdb (v := .bool false) (fun w hb => by (have e := eZ; go_simp; try rfl))) ?_
              simp only [Act.put, List.setIfInBounds_toArray, List.set_cons_succ, List.set_cons_zero, Nat.reduceAdd]
              refine Many.lex_want (by rfl) (rdb (v := .bool false) (fun w hb => by (skip; go_simp; try rfl))) ?_
              simp only [Act.put, List.setIfInBounds_toArray, List.set_cons_succ, List.set_cons_zero, Nat.reduceAdd]
              refine Many.lex_want (by rfl) (rdb (v := .bool false) (fun w hb => by (skip; go_simp; try rfl))) ?_
              simp only [Act.put, List.setIfInBounds_toArray, List.set_cons_succ, List.set_cons_zero, Nat.reduceAdd]
              refine Many.lex_want (by rfl) (rdb (fun w hb => by (go_simp; try rfl))) ?_
              simp only [Act.put, List.setIfInBounds_toArray, List.set_cons_succ, List.set_cons_zero, Nat.reduceAdd]
              refine Many.lex_want (by rfl) (rdb (fun w hb => by (go_simp; try rfl))) ?_
              simp only [Act.put, List.setIfInBounds_toArray, List.set_cons_succ, List.set_cons_zero, Nat.reduceAdd]
              refine Many.lex_want (by rfl) (clb2 q27 (fun w hb => by (go_simp; try rfl))) ?_
              simp only [Act.put, List.setIfInBounds_toArray, List.set_cons_succ, List.set_cons_zero, Nat.reduceAdd]
              refine Many.lex_want (by rfl) (rdb (v := .bool false) (fun w hb => by (skip; go_simp; try rfl))) ?_
              simp only [Act.put, List.setIfInBounds_toArray, List.set_cons_succ, List.set_cons_zero, Nat.reduceAdd]
              refine Many.lex_want (by rfl) (rdb (v := .bool false) (fun w hb => by (skip; go_simp; try rfl))) ?_
              simp only [Act.put, List.setIfInBounds_toArray, List.set_cons_succ, List.set_cons_zero, Nat.reduceAdd]
              refine Many.lex_want (by rfl) (rdb (v := .bool false) (fun w hb => by (skip; go_simp; try rfl))) ?_
              simp only [Act.put, List.setIfInBounds_toArray, List.set_cons_succ, List.set_cons_zero, Nat.reduceAdd]
              refine Many.lex_want (by rfl) (rdb (fun w hb => by (go_simp; try rfl))) ?_
              simp only [Act.put, List.setIfInBounds_toArray, List.set_cons_succ, List.set_cons_zero, Nat.reduceAdd]
              refine Many.lex_want (by rfl) (rdb (v := .int .i64 (k : Nat)) (fun w hb => by (skip; go_simp; try rfl))) ?_
              simp only [Act.put, List.setIfInBounds_toArray, List.set_cons_succ, List.set_cons_zero, Nat.reduceAdd]
              refine Many.lex_want (by rfl) (rdb (fun w hb => by (go_simp; try rfl))) ?_
              simp only [Act.put, List.setIfInBounds_toArray, List.set_cons_succ, List.set_cons_zero, Nat.reduceAdd]
              refine Many.lex_want (by rfl) (rdb (v := .int .i64 (k : Nat)) (fun w hb => by (skip; go_simp; try rfl))) ?_
              simp only [Act.put, List.setIfInBounds_toArray, List.set_cons_succ, List.set_cons_zero, Nat.reduceAdd]
              refine Many.lex_want (by rfl) (rdb (v := .bool false) (fun w hb => by (skip; go_simp; try rfl))) ?_
              simp only [Act.put, List.setIfInBounds_toArray, List.set_cons_succ, List.set_cons_zero, Nat.reduceAdd]
              refine Many.lex_want (by rfl) (rdb (v := .bool false) (fun w hb => by (skip; go_simp; try rfl))) ?_
              simp only [Act.put, List.setIfInBounds_toArray, List.set_cons_succ, List.set_cons_zero, Nat.reduceAdd]
              refine Many.lex_nil fun s w14 hs hC => ?_
              have hC : Below w13.heap.size w13 w14 := hC
              have hbW14 := hbW13.trans (hC.mono hbW13.size)
              have hC13 := hC
              clear hC hs q27 q29 eA eZ o9 o11 o13
              go_wp2
              go_loopw [19] (fun i wq => ∃ i1 : Nat, 1 ≤ i1 ∧ i1 ≤ k + 1 ∧ i = .int .i64 i1 ∧ Below w13.heap.size w13 wq) (fun i _ => k + 1 - (intOf i).toNat)
              case atStart => exact ⟨1, by omega, by omega, rfl, hC13⟩
              case round =>
                obtain ⟨i1, hi1, hi1k, rfl, hbr⟩ := hrel
                have hbrz := hbr.size
                by_cases hlt : i1 < k
                · obtain ⟨j, hj⟩ : ∃ j, Keep (i1 = j + 1) := ⟨i1 - 1, ⟨by omega⟩⟩
                  have hjk : j < k := by have := hj.out; omega
                  obtain ⟨gp, op, rfl, hf1, hf2⟩ := hpK.out j hjk
                  obtain ⟨gp', op', e1', hg1, hg2⟩ := hpK.out i1 hlt
                  obtain ⟨rfl, rfl⟩ : gp = gp' ∧ op = op' := by simpa using e1'
                  obtain ⟨gs, os, rfl, hsf1, hsf2⟩ := hsK.out j hjk
                  obtain ⟨gs', os', e2', hsg1, hsg2⟩ := hsK.out i1 hlt
                  obtain ⟨rfl, rfl⟩ : gs = gs' ∧ os = os' := by simpa using e2'
                  have hf1 := cell_below hf1 hbr
                  have hf2 := cell_below hf2 hbr
                  have hg1 := cell_below hg1 hbr
                  have hg2 := cell_below hg2 hbr
                  have hsf1 := cell_below hsf1 hbr
                  have hsf2 := cell_below hsf2 hbr
                  have hsg1 := cell_below hsg1 hbr
                  have hsg2 := cell_below hsg2 hbr
                  have kf := hok2.out _ (getp (l := ps) (k := j) (by have := hpkK.out; omega))
                  have kg := hok2.out _ (getp (l := ps) (k := i1) (by have := hpkK.out; omega))
                  have ksf := hok2.out _ (hasc.perm.mem_iff.1 (getp (l := sl) (k := j) (by have := hslK.out; omega)))
                  have ksg := hok2.out _ (hasc.perm.mem_iff.1 (getp (l := sl) (k := i1) (by have := hslK.out; omega)))
                  have hord := hasc.ord j i1 (by have := hj.out; omega) (by have := hslK.out; omega)
                  generalize ps.getD j (0, 0) = f at *
                  generalize ps.getD i1 (0, 0) = gg at *
                  generalize sl.getD j (0, 0) = sf at *
                  generalize sl.getD i1 (0, 0) = sg at *
                  have q54a := fun w => compareFn_yes kf kg w
                  have q54b := fun w => compareFn_yes kg kf w
                  have q54s := fun w => compareFn_yes ksf ksg w
                  obtain ⟨n, d⟩ := f
                  obtain ⟨m1, q⟩ := gg
                  obtain ⟨sn, sd⟩ := sf
                  obtain ⟨sm, sq⟩ := sg
                  simp only at q54a q54b q54s hf1 hf2 hg1 hg2 hsf1 hsf2 hsg1 hsg2 hord
                  have hR := cmp_neg (n * q) (m1 * d)
                  have hRb := cmp_bounds (m1 * d) (n * q)
                  have hZ := cmp_asc hord
                  obtain ⟨R1, hR1⟩ : ∃ x, Keep (cmpI (n * q) (m1 * d) = x) := ⟨_, ⟨rfl⟩⟩
                  obtain ⟨R2, hR2⟩ : ∃ x, Keep (cmpI (m1 * d) (n * q) = x) := ⟨_, ⟨rfl⟩⟩
                  obtain ⟨Z, hZ2⟩ : ∃ x, Keep (cmpI (sn * sq) (sm * sd) = x) := ⟨_, ⟨rfl⟩⟩
                  rw [hR1.out] at q54a hR
                  rw [hR2.out] at q54b hR hRb
                  rw [hZ2.out] at q54s hZ
                  have wR : IntKind.i64.wrap (-R2) = R1 := by rw [hR]; exact IntWalk.i64_in _ (by omega)
                  have hZ0 : ¬ 0 < Z := by omega
                  have wj : IntKind.i64.wrap ((i1 : Int) - 1) = (j : Int) := by have := hj.out; rw [IntWalk.i64_in _ (by omega)]; omega
                  have hltI : (i1 : Int) < (k : Int) := by omega
                  unfold fracV at q54a q54b q54s
                  clear hR hRb hZ hR1 hR2 hZ2 kf kg ksf ksg hord e1' e2'
                  go_wp2
                  refine (wpIn_wide (n := 0)).1 ?_
                  refine Many.region_many (Go.Proofs.Ytbocmbhinjkjlaa.Cb wr) mixed_ok (by kernel_rfl) (fun _ _ _ _ h => h) (fun s _ => Go.Proofs.Ytbocmbhinjkjlaa.Cb.start wr s) ?_
                  refine Many.lex_want (by rfl) (rdb (fun w hb => by (go_simp; try rfl))) ?_
                  simp only [Act.put, List.setIfInBounds_toArray, List.set_cons_succ, List.set_cons_zero, Nat.reduceAdd]
                  refine Many.lex_want (by rfl) (rdb (fun w hb => by (go_simp; try rfl))) ?_
                  simp only [Act.put, List.setIfInBounds_toArray, List.set_cons_succ, List.set_cons_zero, Nat.reduceAdd]
                  refine Many.lex_want (by rfl) (rdb (v := .int .i64 (j : Nat)) (fun w hb => by (skip; go_simp; try rfl))) ?_
                  simp only [Act.put, List.setIfInBounds_toArray, List.set_cons_succ, List.set_cons_zero, Nat.reduceAdd]
                  refine Many.lex_want (by rfl) (rdb (v := .pointer (some ⟨gp, op + j * 2, none⟩)) (fun w hb => by (skip; go_simp; try rfl))) ?_
                  simp only [Act.put, List.setIfInBounds_toArray, List.set_cons_succ, List.set_cons_zero, Nat.reduceAdd]
                  refine Many.lex_want (by rfl) (rdb (v := .agg #[.int .i64 n, .int .i64 d]) (fun w hb => by (have c0 := cell_below hf1 hb; have c1 := cell_below hf2 hb; go_simp; try rfl))) ?_
                  simp only [Act.put, List.setIfInBounds_toArray, List.set_cons_succ, List.set_cons_zero, Nat.reduceAdd]
                  refine Many.lex_want (by rfl) (rdb (fun w hb => by (go_simp; try rfl))) ?_
                  simp only [Act.put, List.setIfInBounds_toArray, List.set_cons_succ, List.set_cons_zero, Nat.reduceAdd]
                  refine Many.lex_want (by rfl) (rdb (fun w hb => by (go_simp; try rfl))) ?_
                  simp only [Act.put, List.setIfInBounds_toArray, List.set_cons_succ, List.set_cons_zero, Nat.reduceAdd]
                  refine Many.lex_want (by rfl) (rdb (v := .pointer (some ⟨gp, op + i1 * 2, none⟩)) (fun w hb => by (skip; go_simp; try rfl))) ?_
                  simp only [Act.put, List.setIfInBounds_toArray, List.set_cons_succ, List.set_cons_zero, Nat.reduceAdd]
                  refine Many.lex_want (by rfl) (rdb (v := .agg #[.int .i64 m1, .int .i64 q]) (fun w hb => by (have c0 := cell_below hg1 hb; have c1 := cell_below hg2 hb; go_simp; try rfl))) ?_
                  simp only [Act.put, List.setIfInBounds_toArray, List.set_cons_succ, List.set_cons_zero, Nat.reduceAdd]
                  refine Many.lex_want (by rfl) (clb q54a (fun w hb => by (go_simp; try rfl))) ?_
                  simp only [Act.put, List.setIfInBounds_toArray, List.set_cons_succ, List.set_cons_zero, Nat.reduceAdd]
                  refine Many.lex_want (by rfl) (rdb (fun w hb => by (go_simp; try rfl))) ?_
                  simp only [Act.put, List.setIfInBounds_toArray, List.set_cons_succ, List.set_cons_zero, Nat.reduceAdd]
                  refine Many.lex_want (by rfl) (rdb (fun w hb => by (go_simp; try rfl))) ?_
                  simp only [Act.put, List.setIfInBounds_toArray, List.set_cons_succ, List.set_cons_zero, Nat.reduceAdd]
                  refine Many.lex_want (by rfl) (rdb (fun w hb => by (go_simp; try rfl))) ?_
                  simp only [Act.put, List.setIfInBounds_toArray, List.set_cons_succ, List.set_cons_zero, Nat.reduceAdd]
                  refine Many.lex_want (by rfl) (rdb (fun w hb => by (go_simp; try rfl))) ?_
                  simp only [Act.put, List.setIfInBounds_toArray, List.set_cons_succ, List.set_cons_zero, Nat.reduceAdd]
                  refine Many.lex_want (by rfl) (rdb (fun w hb => by (go_simp; try rfl))) ?_
                  simp only [Act.put, List.setIfInBounds_toArray, List.set_cons_succ, List.set_cons_zero, Nat.reduceAdd]
                  refine Many.lex_nil fun s V1 hs hC => ?_
                  have hC : Below wr.heap.size wr V1 := hC
                  have hbV1 := hbr.trans (hC.mono hbrz)
                  have hf1 := cell_below hf1 hC
                  have hf2 := cell_below hf2 hC
                  have hg1 := cell_below hg1 hC
                  have hg2 := cell_below hg2 hC
                  have hsf1 := cell_below hsf1 hC
                  have hsf2 := cell_below hsf2 hC
                  have hsg1 := cell_below hsg1 hC
                  have hsg2 := cell_below hsg2 hC
                  clear hC hs q54a
                  go_wp2
                  refine (wpIn_wide (n := 0)).1 ?_
                  refine Many.region_many (Go.Proofs.Ytbocmbhinjkjlaa.Cb V1) mixed_ok (by kernel_rfl) (fun _ _ _ _ h => h) (fun s _ => Go.Proofs.Ytbocmbhinjkjlaa.Cb.start V1 s) ?_
                  refine Many.lex_want (by rfl) (rdb (fun w hb => by (go_simp; try rfl))) ?_
                  simp only [Act.put, List.setIfInBounds_toArray, List.set_cons_succ, List.set_cons_zero, Nat.reduceAdd]
                  refine Many.lex_want (by rfl) (rdb (fun w hb => by (go_simp; try rfl))) ?_
                  simp only [Act.put, List.setIfInBounds_toArray, List.set_cons_succ, List.set_cons_zero, Nat.reduceAdd]
                  refine Many.lex_want (by rfl) (rdb (v := .pointer (some ⟨gp, op + i1 * 2, none⟩)) (fun w hb => by (skip; go_simp; try rfl))) ?_
                  simp only [Act.put, List.setIfInBounds_toArray, List.set_cons_succ, List.set_cons_zero, Nat.reduceAdd]
                  refine Many.lex_want (by rfl) (rdb (v := .agg #[.int .i64 m1, .int .i64 q]) (fun w hb => by (have c0 := cell_below hg1 hb; have c1 := cell_below hg2 hb; go_simp; try rfl))) ?_
                  simp only [Act.put, List.setIfInBounds_toArray, List.set_cons_succ, List.set_cons_zero, Nat.reduceAdd]
                  refine Many.lex_want (by rfl) (rdb (fun w hb => by (go_simp; try rfl))) ?_
                  simp only [Act.put, List.setIfInBounds_toArray, List.set_cons_succ, List.set_cons_zero, Nat.reduceAdd]
                  refine Many.lex_want (by rfl) (rdb (fun w hb => by (go_simp; try rfl))) ?_
                  simp only [Act.put, List.setIfInBounds_toArray, List.set_cons_succ, List.set_cons_zero, Nat.reduceAdd]
                  refine Many.lex_want (by rfl) (rdb (v := .int .i64 (j : Nat)) (fun w hb => by (skip; go_simp; try rfl))) ?_
                  simp only [Act.put, List.setIfInBounds_toArray, List.set_cons_succ, List.set_cons_zero, Nat.reduceAdd]
                  refine Many.lex_want (by rfl) (rdb (v := .pointer (some ⟨gp, op + j * 2, none⟩)) (fun w hb => by (skip; go_simp; try rfl))) ?_
                  simp only [Act.put, List.setIfInBounds_toArray, List.set_cons_succ, List.set_cons_zero, Nat.reduceAdd]
                  refine Many.lex_want (by rfl) (rdb (v := .agg #[.int .i64 n, .int .i64 d]) (fun w hb => by (have c0 := cell_below hf1 hb; have c1 := cell_below hf2 hb; go_simp; try rfl))) ?_
                  simp only [Act.put, List.setIfInBounds_toArray, List.set_cons_succ, List.set_cons_zero, Nat.reduceAdd]
                  refine Many.lex_want (by rfl) (clb q54b (fun w hb => by (go_simp; try rfl))) ?_
                  simp only [Act.put, List.setIfInBounds_toArray, List.set_cons_succ, List.set_cons_zero, Nat.reduceAdd]
                  refine Many.lex_want (by rfl) (rdb (fun w hb => by (go_simp; try rfl))) ?_
                  simp only [Act.put, List.setIfInBounds_toArray, List.set_cons_succ, List.set_cons_zero, Nat.reduceAdd]
                  refine Many.lex_want (by rfl) (rdb (fun w hb => by (go_simp; try rfl))) ?_
                  simp only [Act.put, List.setIfInBounds_toArray, List.set_cons_succ, List.set_cons_zero, Nat.reduceAdd]
                  refine Many.lex_want (by rfl) (rdb (fun w hb => by (go_simp; try rfl))) ?_
                  simp only [Act.put, List.setIfInBounds_toArray, List.set_cons_succ, List.set_cons_zero, Nat.reduceAdd]
                  refine Many.lex_want (by rfl) (rdb (fun w hb => by (go_simp; try rfl))) ?_
                  simp only [Act.put, List.setIfInBounds_toArray, List.set_cons_succ, List.set_cons_zero, Nat.reduceAdd]
                  refine Many.lex_want (by rfl) (rdb (fun w hb => by (go_simp; try rfl))) ?_
                  simp only [Act.put, List.setIfInBounds_toArray, List.set_cons_succ, List.set_cons_zero, Nat.reduceAdd]
                  refine Many.lex_nil fun s V2 hs hC => ?_
                  have hC : Below V1.heap.size V1 V2 := hC
                  have hbV2 := hbV1.trans (hC.mono hbV1.size)
                  have hf1 := cell_below hf1 hC
                  have hf2 := cell_below hf2 hC
                  have hg1 := cell_below hg1 hC
                  have hg2 := cell_below hg2 hC
                  have hsf1 := cell_below hsf1 hC
                  have hsf2 := cell_below hsf2 hC
                  have hsg1 := cell_below hsg1 hC
                  have hsg2 := cell_below hsg2 hC
                  clear hC hs q54b
                  go_wp2
                  refine (wpIn_wide (n := 0)).1 ?_
                  refine Many.region_many (Go.Proofs.Ytbocmbhinjkjlaa.Cb V2) mixed_ok (by kernel_rfl) (fun _ _ _ _ h => h) (fun s _ => Go.Proofs.Ytbocmbhinjkjlaa.Cb.start V2 s) ?_
                  refine Many.lex_want (by rfl) (rdb (fun w hb => by (go_simp; try rfl))) ?_
                  simp only [Act.put, List.setIfInBounds_toArray, List.set_cons_succ, List.set_cons_zero, Nat.reduceAdd]
                  refine Many.lex_want (by rfl) (rdb (fun w hb => by (go_simp; try rfl))) ?_
                  simp only [Act.put, List.setIfInBounds_toArray, List.set_cons_succ, List.set_cons_zero, Nat.reduceAdd]
                  refine Many.lex_want (by rfl) (rdb (v := .int .i64 (j : Nat)) (fun w hb => by (skip; go_simp; try rfl))) ?_
                  simp only [Act.put, List.setIfInBounds_toArray, List.set_cons_succ, List.set_cons_zero, Nat.reduceAdd]
                  refine Many.lex_want (by rfl) (rdb (v := .pointer (some ⟨gs, os + j * 2, none⟩)) (fun w hb => by (skip; go_simp; try rfl))) ?_
                  simp only [Act.put, List.setIfInBounds_toArray, List.set_cons_succ, List.set_cons_zero, Nat.reduceAdd]
                  refine Many.lex_want (by rfl) (rdb (v := .agg #[.int .i64 sn, .int .i64 sd]) (fun w hb => by (have c0 := cell_below hsf1 hb; have c1 := cell_below hsf2 hb; go_simp; try rfl))) ?_
                  simp only [Act.put, List.setIfInBounds_toArray, List.set_cons_succ, List.set_cons_zero, Nat.reduceAdd]
                  refine Many.lex_want (by rfl) (rdb (fun w hb => by (go_simp; try rfl))) ?_
                  simp only [Act.put, List.setIfInBounds_toArray, List.set_cons_succ, List.set_cons_zero, Nat.reduceAdd]
                  refine Many.lex_want (by rfl) (rdb (fun w hb => by (go_simp; try rfl))) ?_
                  simp only [Act.put, List.setIfInBounds_toArray, List.set_cons_succ, List.set_cons_zero, Nat.reduceAdd]
                  refine Many.lex_want (by rfl) (rdb (v := .pointer (some ⟨gs, os + i1 * 2, none⟩)) (fun w hb => by (skip; go_simp; try rfl))) ?_
                  simp only [Act.put, List.setIfInBounds_toArray, List.set_cons_succ, List.set_cons_zero, Nat.reduceAdd]
                  refine Many.lex_want (by rfl) (rdb (v := .agg #[.int .i64 sm, .int .i64 sq]) (fun w hb => by (have c0 := cell_below hsg1 hb; have c1 := cell_below hsg2 hb; go_simp; try rfl))) ?_
                  simp only [Act.put, List.setIfInBounds_toArray, List.set_cons_succ, List.set_cons_zero, Nat.reduceAdd]
                  refine Many.lex_want (by rfl) (clb q54s (fun w hb => by (go_simp; try rfl))) ?_
                  simp only [Act.put, List.setIfInBounds_toArray, List.set_cons_succ, List.set_cons_zero, Nat.reduceAdd]
                  refine Many.lex_want (by rfl) (rdb (fun w hb => by (go_simp; try rfl))) ?_
                  simp only [Act.put, List.setIfInBounds_toArray, List.set_cons_succ, List.set_cons_zero, Nat.reduceAdd]
                  refine Many.lex_want (by rfl) (rdb (fun w hb => by (go_simp; try rfl))) ?_
                  simp only [Act.put, List.setIfInBounds_toArray, List.set_cons_succ, List.set_cons_zero, Nat.reduceAdd]
                  refine Many.lex_want (by rfl) (rdb (fun w hb => by (go_simp; try rfl))) ?_
                  simp only [Act.put, List.setIfInBounds_toArray, List.set_cons_succ, List.set_cons_zero, Nat.reduceAdd]
                  refine Many.lex_want (by rfl) (rdb (fun w hb => by (go_simp; try rfl))) ?_
                  simp only [Act.put, List.setIfInBounds_toArray, List.set_cons_succ, List.set_cons_zero, Nat.reduceAdd]
                  refine Many.lex_want (by rfl) (rdb (fun w hb => by (go_simp; try rfl))) ?_
                  simp only [Act.put, List.setIfInBounds_toArray, List.set_cons_succ, List.set_cons_zero, Nat.reduceAdd]
                  refine Many.lex_nil fun s V3 hs hC => ?_
                  have hC : Below V2.heap.size V2 V3 := hC
                  have hbV3 := hbV2.trans (hC.mono hbV2.size)
                  clear hC hs q54s
                  go_wp2
                  exact ⟨⟨i1 + 1, by omega, by omega, by go_num, hbV3⟩, by simp [intOf]; omega⟩
                · have hltI : ¬ (i1 : Int) < (k : Int) := by omega
                  have hbX := hbW13.trans (hbr.mono hbW13.size)
                  go_wp2_with (go_at_call 25; refine (awake_any _).mono ?_; rintro e V9 ⟨rfl, hb9⟩)
                  go_ret
                  exact ⟨rfl, hbX.trans (hb9.mono hbX.size)⟩
end Go.Proofs.Ytbocmbhinjkjlaa

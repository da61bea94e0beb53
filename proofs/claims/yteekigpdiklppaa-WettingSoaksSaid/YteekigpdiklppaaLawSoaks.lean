import Derived.Test.YteekigpdiklppaaWG
set_option linter.unusedSimpArgs false
set_option linter.unusedVariables false
namespace Go.Proofs.Yteekigpdiklppaa
open Go Go.Proofs Go.RowKit Go.Seq
attribute [local go_sem] Oper.semAt_some
theorem oShelNil {N : Nat} {E : Pts} {r : Int} {s : Nat → Bool} (h : GOk N E) (hr1 : 1 ≤ r) (hr6 : r ≤ 6) (hs : InN N s) (hy : eqb (clo (sokd N (adjOf E) r) s) (allS N) = true) : ∀ (W : World) (ve v : Value), PairsOf W ve E → IntsO W v (zsOf s) → Calls Try.prog 31 #[.int .i64 N, ve, v, .int .i64 r] W fun e w' => ∃ X c, e = .returned (.tuple #[.slice X 0 c, .int .i64 6]) ∧ Below W.heap.size W w' := fun W ve v he hv => by
  refine (oShelter h hr1 hr6 hs W ve v he hv).mono ?_
  rintro e w' ⟨lv, rfl, h1, h2⟩
  obtain ⟨X, c, rfl⟩ := intsO_slice' h1
  rw [if_pos (show soaking N E r s = true from hy)]
  refine ⟨X, c, ?_, h2⟩
  rw [show (zsOf fun j => allS N j && !clo (sokd N (adjOf E) r) s j).length = 0 by
    rw [zsOf_cg (t := fun _ => false) (fun j hj => by
      show (allS N j && !clo (sokd N (adjOf E) r) s j) = false
      rw [eqb_iff.1 hy j hj]; simp)]
    rfl]
theorem oShelSome {N : Nat} {E : Pts} {r : Int} {s : Nat → Bool} (h : GOk N E) (hr1 : 1 ≤ r) (hr6 : r ≤ 6) (hs : InN N s) (hy : eqb (clo (sokd N (adjOf E) r) s) (allS N) = false) {F : Nat → Bool} (hF : (fun j => allS N j && !clo (sokd N (adjOf E) r) s j) = F) : ∀ (W : World) (ve v : Value), PairsOf W ve E → IntsO W v (zsOf s) → Calls Try.prog 31 #[.int .i64 N, ve, v, .int .i64 r] W fun e w' => ∃ lv, e = .returned (.tuple #[lv, .int .i64 0]) ∧ IntsO w' lv (zsOf F) ∧ Below W.heap.size W w' := fun W ve v he hv => by
  have := oShelter h hr1 hr6 hs W ve v he hv
  rw [if_neg (show ¬ soaking N E r s = true by unfold soaking; rw [hy]; simp), hF] at this
  exact this
theorem rest_of {w : World} {B : Nat} {v : Value} {z : Int} {L : List Int} {m : Nat} (hm : L.length = m) (h : w.ownsRow B 3 1 v (z :: L).length ((z :: L).map vz)) :
    ∃ g c, v = .slice (some ⟨g, 0, none⟩) (m + 1) c ∧ w.cell? ⟨g, 0, none⟩ = some (.int .i64 z) ∧ ((c = 1 ∧ IntsO w (.slice (some ⟨g, 0, none⟩) m 0) L) ∨ (¬ c = 1 ∧ IntsO w (.slice (some ⟨g, 1, none⟩) m (c - 1)) L)) := by
  rcases row_intsC h with ⟨_, h0⟩ | ⟨g, cap, rfl, hcap, hc⟩
  · cases h0
  · subst hm
    simp only [List.length_cons] at hcap hc ⊢
    refine ⟨g, cap, rfl, by simpa [vz] using hc 0 (by omega), ?_⟩
    by_cases e : cap = 1
    · refine .inl ⟨e, ?_⟩
      have : L = [] := List.length_eq_zero_iff.1 (by omega)
      subst this
      exact ⟨_, _, rfl, fun k hk => by simp at hk⟩
    · refine .inr ⟨e, _, _, rfl, fun k hk => ⟨g, 1, rfl, ?_⟩⟩
      have := hc (k + 1) (by omega)
      rw [Nat.add_comm 1 k, this]
      simp [vz, List.getD]
set_option maxHeartbeats 8000000 in
set_option maxRecDepth 100000 in
theorem soaks_nil_inv (n : Int) {v1 v2 : Value} {ps : Pts} {zs L : List Int} {z : Int} {w : World} (hv : ArgP w v1 ps) (hz : ArgZ w v2 zs) (hz13 : zs.take 13 = []) (hno : ¬ (GrOk n (ps.take 80) ∧ ListOk n ([] : List Int))) :
    Calls Try.prog 4 #[.int .i64 n, v1, v2] w fun e w' => e = .returned (.bool true) ∧ Below w.heap.size w w' := by
  have q17 := pairs_arg hv
  have hzk := Keep.mk hz
  have hpl : (ps.take 80).length ≤ 200 := by rw [List.length_take]; omega
  have hzl : ([] : List Int).length ≤ 100 := by
    have h1 : (zs.take 13).length ≤ 13 := by rw [List.length_take]; omega
    rw [hz13] at h1
    simp only [List.length_cons, List.length_nil] at h1 ⊢
    omega
  have hz0 : Keep (([] : List Int).length = 0) := ⟨by rfl⟩
  have n30 : Keep (∀ (W : World) (ve v : Value), PairsOf W ve (ps.take 80) → IntsO W v ([] : List Int) → _) := ⟨fun W ve v he hv => Soak_no (n := n) (r := (1 : Int)) he hpl hv hzl hno⟩
  have n31 : Keep (∀ (W : World) (ve v : Value), PairsOf W ve (ps.take 80) → IntsO W v ([] : List Int) → _) := ⟨fun W ve v he hv => Shelter_no (n := n) (r := (1 : Int)) he hpl hv hzl hno⟩
  have n22 : Keep (∀ (W : World) (ve v : Value), PairsOf W ve (ps.take 80) → IntsO W v ([] : List Int) → Calls Try.prog 22 #[.int .i64 n, ve, v] W fun e w' => e = .returned (.bool false) ∧ Below W.heap.size W w') := ⟨fun W ve v he hv => (valid_no (n := n) he hpl hv hzl hno).mono fun e w' ⟨h1, q, h2⟩ => ⟨h1, by rw [h2]; exact below_dn W q⟩⟩
  clear hno hpl hzl hv hz
  go_enter Try.func4, Try.ntmps4
  go_wp2_with (first
    | (go_at_call 17; (with_reducible refine q17.mono ?_); rintro e w1 ⟨vl, rfl, hr1, hb1⟩
       have hk1 : Keep (Hd w w1 vl (ps.take 80) []) := ⟨⟨own_pairs hr1, fun x hx => by simp at hx, hb1⟩⟩
       have q18 := list_arg (argZ_below hzk.out hb1)
       rw [hz13] at q18
       clear hr1 hb1 q17)
    | (go_at_call 18; (with_reducible refine q18.mono ?_); rintro e w2 ⟨vs, rfl, hr2, hb2⟩
       have hi2 := ints_own hr2
       obtain ⟨X2, c2, rfl⟩ : ∃ X c, vs = .slice X 0 c := by have := intsO_slice' hi2; rw [hz0.out] at this; exact this
       have hk2 := Keep.mk (hk1.out.put hb2 hi2)
       clear hi2
       clear hr2 hb2 q18 hk1)
    | (go_at_call 30; have hp3 := hk2.out.ps; have hv3_1 := hk2.out.at (z := ([] : List Int)) (.head _);
       (with_reducible refine (n30.out _ _ _  hp3 hv3_1).mono ?_); rintro e w3 ⟨rfl, hb3⟩
       have hk3 := Keep.mk (hk2.out.keep hb3)
       clear hb3 hp3 hv3_1 hk2)
    | (go_at_call 31; have hp4 := hk3.out.ps; have hv4_1 := hk3.out.at (z := ([] : List Int)) (.head _);
       (with_reducible refine (n31.out _ _ _  hp4 hv4_1).mono ?_); rintro e w4 ⟨rfl, hb4⟩
       have hk4 := Keep.mk (hk3.out.keep hb4)
       clear hb4 hp4 hv4_1 hk3)
    | (go_at_call 22; have hp5 := hk4.out.ps; have hv5_1 := hk4.out.at (z := ([] : List Int)) (.head _);
       (with_reducible refine (n22.out _ _ _  hp5 hv5_1).mono ?_); rintro e w5 ⟨rfl, hb5⟩
       have hk5 := Keep.mk (hk4.out.keep hb5)
       clear hb5 hp5 hv5_1 hk4)
    | (go_at_call 23; (with_reducible refine (awake_w _).mono ?_); rintro e w6 ⟨rfl, hb6⟩
       have hk6 := Keep.mk (hk5.out.keep hb6)
       clear hb6 hk5))
  all_goals (refine bodyPost_ret (v := .bool true) (by simp [results, Try.results4, go_sem]) rfl ?_; exact ⟨rfl, hk6.out.2.2⟩)
set_option maxHeartbeats 8000000 in
set_option maxRecDepth 100000 in
theorem soaks_nil_wet {n : Nat} {v1 v2 : Value} {ps : Pts} {zs L : List Int} {z : Int} {w : World} (hv : ArgP w v1 ps) (hz : ArgZ w v2 zs) (hz13 : zs.take 13 = []) {E : Pts} {S : Nat → Bool} (hE : ps.take 80 = E) (hG : GOk n E) (hS : InN n S) (hzs : ([] : List Int) = zsOf S) (hr : 1 ≤ (1 : Int) ∧ (1 : Int) ≤ 6) (hy : eqb (clo (sokd n (adjOf E) (1 : Int)) S) (allS n) = true) :
    Calls Try.prog 4 #[.int .i64 n, v1, v2] w fun e w' => e = .returned (.bool true) ∧ Below w.heap.size w w' := by
  have q17 := pairs_arg hv
  have hzk := Keep.mk hz
  have hpl : (ps.take 80).length ≤ 200 := by rw [List.length_take]; omega
  have hzl : ([] : List Int).length ≤ 100 := by
    have h1 : (zs.take 13).length ≤ 13 := by rw [List.length_take]; omega
    rw [hz13] at h1
    simp only [List.length_cons, List.length_nil] at h1 ⊢
    omega
  have hz0 : Keep ((zsOf S).length = 0) := ⟨by rw [← hzs]; rfl⟩
  rw [hE] at q17
  rw [hzs] at hz13
  have hN := hG.n12
  obtain ⟨hr1, hr6⟩ := hr
  have hCin := inN_soak (1 : Int) hG hS
  have q30 := Keep.mk (fun (W : World) (ve v : Value) (he : PairsOf W ve E) (hv : IntsO W v (zsOf S)) => oSoak (r := (1 : Int)) hG hr1 hr6 he hS hv)
  have q22 := Keep.mk (valid_yesG hG hS)
  have q24 := Keep.mk (fun (W : World) (ve : Value) (he : PairsOf W ve E) => near_any hG he)
  have q33 := Keep.mk (fun (W : World) (G : Nat) (hg : NumsAt W G n 3 (nearOf E)) => refSoak_any (r := (1 : Int)) hG (s := S) (n := num S) rfl hg)
  have q26 := Keep.mk (set_n (s := S) rfl)
  have q32 := thr_any (1 : Int)
  rw [decide_eq_true ⟨hr1, hr6⟩] at q32
  have q31 := Keep.mk (oShelNil (r := (1 : Int)) hG hr1 hr6 hS hy)
  obtain ⟨K, hK⟩ : ∃ K, kfOf (sokd n (adjOf E) (1 : Int)) S = K := ⟨_, rfl⟩
  obtain ⟨C, hC⟩ : ∃ C, clo (sokd n (adjOf E) (1 : Int)) S = C := ⟨_, rfl⟩
  rw [hK] at q30 q33
  rw [hC] at q30 q33 hCin hy
  have q28 := fun W => oList (N := n) (s := C) rfl W
  have q29 := fun p cap w => refAll_any hN p cap w
  obtain ⟨nC, hnC⟩ : ∃ nC, num C = nC := ⟨_, rfl⟩
  rw [hnC] at q33 q28
  obtain ⟨nS, hnS⟩ : ∃ nS, num S = nS := ⟨_, rfl⟩
  rw [hnS] at q33 q26
  have hwA : num (allS n) = nC := by rw [← hnC]; exact num_ext fun j hj => (eqb_iff.1 hy j hj).symm
  rw [hwA] at q29
  clear hwA hy hK hC hnC hnS hCin hS hG hr1 hr6 hE hpl hzl hv hz
  go_enter Try.func4, Try.ntmps4
  go_wp2_with (first
    | (go_at_call 17; (with_reducible refine q17.mono ?_); rintro e w1 ⟨vl, rfl, hr1, hb1⟩
       have hk1 : Keep (Hd w w1 vl E []) := ⟨⟨own_pairs hr1, fun x hx => by simp at hx, hb1⟩⟩
       have q18 := list_arg (argZ_below hzk.out hb1)
       rw [hz13] at q18
       clear hr1 hb1 q17)
    | (go_at_call 18; (with_reducible refine q18.mono ?_); rintro e w2 ⟨vs, rfl, hr2, hb2⟩
       have hi2 := ints_own hr2
       obtain ⟨X2, c2, rfl⟩ : ∃ X c, vs = .slice X 0 c := by have := intsO_slice' hi2; rw [hz0.out] at this; exact this
       have hk2 := Keep.mk (hk1.out.put hb2 hi2)
       clear hi2
       clear hr2 hb2 q18 hk1)
    | (go_at_call 30; have hp3 := hk2.out.ps; have hv3_1 := hk2.out.at (z := (zsOf S)) (.head _);
       (with_reducible refine (q30.out _ _ _  hp3 hv3_1).mono ?_); rintro e w3 ⟨vc, rfl, hi3, hb3⟩
       have hk3 := Keep.mk (hk2.out.put hb3 hi3)
       clear hi3 hb3 hp3 hv3_1 hk2)
    | (go_at_call 31; have hp := hk3.out.ps; have hv0 := hk3.out.at (z := (zsOf S)) (.tail _ (.head _))
       (with_reducible refine (q31.out _ _ _ hp hv0).mono ?_); rintro e w4 ⟨XX, cX, rfl, hb⟩
       have hk4 := Keep.mk (hk3.out.keep hb)
       clear hb hp hv0 hk3 q31)
    | (go_at_call 22; have hp5 := hk4.out.ps; have hv5_1 := hk4.out.at (z := (zsOf S)) (.tail _ (.head _));
       (with_reducible refine (q22.out _ _ _  hp5 hv5_1).mono ?_); rintro e w5 ⟨rfl, hb5⟩
       have hk5 := Keep.mk (hk4.out.keep hb5)
       clear hb5 hp5 hv5_1 hk4)
    | (go_at_call 32; (with_reducible refine (q32 _).mono ?_); rintro e wm ⟨rfl, hem⟩; rw [hem]; clear hem wm)
    | (go_at_call 24; have hp := hk5.out.ps; (with_reducible refine (q24.out _ _ hp).mono ?_); rintro e w6 ⟨G, rfl, hG, hGl, hb⟩
       have hk6 := Keep.mk (hk5.out.keep hb)
       have hGk := Keep.mk hG
       clear hG hGl hb hp hk5 q24)
    | (go_at_call 26; have hvx := hk6.out.at (z := (zsOf S)) (.tail _ (.head _))
       (with_reducible refine (q26.out _ _ hvx).mono ?_); rintro e wm ⟨rfl, hem⟩; rw [hem]; clear hem wm hvx)
    | (go_at_call 33; have hG := hGk.out; (with_reducible refine (q33.out _ _ hG).mono ?_); rintro e w7 ⟨rfl, hb⟩
       have hk7 := Keep.mk (hk6.out.keep hb)
       clear hG hb hk6 q33)
    | (go_at_call 28; (with_reducible refine (q28 _).mono ?_); rintro e w8 ⟨vw, rfl, hi8, hb8⟩
       have hk8 := Keep.mk (hk7.out.put hb8 hi8)
       clear hi8 hb8 hk7 q28)
    | (go_at_call 27; have hva := hk8.out.at (v := vc) (z := zsOf C) (.tail _ (.head _)); have hvb := hk8.out.at (v := vw) (z := zsOf C) (.head _)
       (with_reducible refine (same_any hva hvb (Nat.le_trans (zs_len _) (by omega))).mono ?_); rintro e w9 ⟨rfl, nq9, hq9⟩
       have hk9 := Keep.mk (hk8.out.dn nq9)
       rw [← hq9] at hk9
       clear hva hvb hk8 hq9)
    | (go_at_call 29; (with_reducible refine (q29 _ _ _).mono ?_); rintro e wm ⟨rfl, hem⟩; rw [hem]; clear hem wm)
    | (go_at_call 23; (with_reducible refine (awake_w _).mono ?_); rintro e w10 ⟨rfl, hb10⟩
       have hk10 := Keep.mk (hk9.out.keep hb10)
       clear hb10 hk9))
  all_goals (refine bodyPost_ret (v := .bool true) (by simp [results, Try.results4, go_sem]) rfl ?_; exact ⟨rfl, hk10.out.2.2⟩)
set_option maxHeartbeats 8000000 in
set_option maxRecDepth 100000 in
theorem soaks_nil_dry {n : Nat} {v1 v2 : Value} {ps : Pts} {zs L : List Int} {z : Int} {w : World} (hv : ArgP w v1 ps) (hz : ArgZ w v2 zs) (hz13 : zs.take 13 = []) {E : Pts} {S : Nat → Bool} (hE : ps.take 80 = E) (hG : GOk n E) (hS : InN n S) (hzs : ([] : List Int) = zsOf S) (hr : 1 ≤ (1 : Int) ∧ (1 : Int) ≤ 6) (hy : eqb (clo (sokd n (adjOf E) (1 : Int)) S) (allS n) = false) :
    Calls Try.prog 4 #[.int .i64 n, v1, v2] w fun e w' => e = .returned (.bool true) ∧ Below w.heap.size w w' := by
  have q17 := pairs_arg hv
  have hzk := Keep.mk hz
  have hpl : (ps.take 80).length ≤ 200 := by rw [List.length_take]; omega
  have hzl : ([] : List Int).length ≤ 100 := by
    have h1 : (zs.take 13).length ≤ 13 := by rw [List.length_take]; omega
    rw [hz13] at h1
    simp only [List.length_cons, List.length_nil] at h1 ⊢
    omega
  have hz0 : Keep ((zsOf S).length = 0) := ⟨by rw [← hzs]; rfl⟩
  rw [hE] at q17
  rw [hzs] at hz13
  have hN := hG.n12
  obtain ⟨hr1, hr6⟩ := hr
  have hCin := inN_soak (1 : Int) hG hS
  have q30 := Keep.mk (fun (W : World) (ve v : Value) (he : PairsOf W ve E) (hv : IntsO W v (zsOf S)) => oSoak (r := (1 : Int)) hG hr1 hr6 he hS hv)
  have q22 := Keep.mk (valid_yesG hG hS)
  have q24 := Keep.mk (fun (W : World) (ve : Value) (he : PairsOf W ve E) => near_any hG he)
  have q33 := Keep.mk (fun (W : World) (G : Nat) (hg : NumsAt W G n 3 (nearOf E)) => refSoak_any (r := (1 : Int)) hG (s := S) (n := num S) rfl hg)
  have q26 := Keep.mk (set_n (s := S) rfl)
  have q32 := thr_any (1 : Int)
  rw [decide_eq_true ⟨hr1, hr6⟩] at q32
  have q31 := Keep.mk (oShelSome (r := (1 : Int)) hG hr1 hr6 hS hy (F := fun j => allS n j && !clo (sokd n (adjOf E) (1 : Int)) S j) rfl)
  obtain ⟨K, hK⟩ : ∃ K, kfOf (sokd n (adjOf E) (1 : Int)) S = K := ⟨_, rfl⟩
  obtain ⟨C, hC⟩ : ∃ C, clo (sokd n (adjOf E) (1 : Int)) S = C := ⟨_, rfl⟩
  rw [hK] at q30 q33
  rw [hC] at q30 q33 hCin hy
  have q28 := fun W => oList (N := n) (s := C) rfl W
  have q29 := fun p cap w => refAll_any hN p cap w
  obtain ⟨nC, hnC⟩ : ∃ nC, num C = nC := ⟨_, rfl⟩
  rw [hnC] at q33 q28
  obtain ⟨nS, hnS⟩ : ∃ nS, num S = nS := ⟨_, rfl⟩
  rw [hnS] at q33 q26
  rw [hC] at q31
  obtain ⟨F, hF⟩ : ∃ F, (fun j => allS n j && !C j) = F := ⟨_, rfl⟩
  rw [hF] at q31
  obtain ⟨nA, hnA⟩ : ∃ nA, num (allS n) = nA := ⟨_, rfl⟩
  rw [hnA] at q29
  have hne : ((nC : Int) == (nA : Int)) = false := by
    rw [beq_eq_false_iff_ne]
    intro h
    have : num C = num (allS n) := by omega
    rw [eqb_iff.2 (num_inj this)] at hy; cases hy
  have hsum := num_rest hN hCin
  rw [hF, ← num_all hN, hnC, hnA] at hsum
  have q28f := fun W => oList (N := n) (s := F) rfl W
  obtain ⟨nF, hnF⟩ : ∃ nF, num F = nF := ⟨_, rfl⟩
  rw [hnF] at q28f hsum
  have hsub : IntKind.i64.wrap ((nA : Int) - (nC : Int)) = (nF : Int) := by
    have := num_mod (allS n) C (by rw [hnA, hnC]; omega)
    rw [hnA, hnC] at this
    rw [this]; omega
  clear hy hK hC hnC hnS hCin hS hG hF hnA hsum hnF hr1 hr6 hE hpl hzl hv hz
  go_enter Try.func4, Try.ntmps4
  go_wp2_with (first
    | (go_at_call 17; (with_reducible refine q17.mono ?_); rintro e w1 ⟨vl, rfl, hr1, hb1⟩
       have hk1 : Keep (Hd w w1 vl E []) := ⟨⟨own_pairs hr1, fun x hx => by simp at hx, hb1⟩⟩
       have q18 := list_arg (argZ_below hzk.out hb1)
       rw [hz13] at q18
       clear hr1 hb1 q17)
    | (go_at_call 18; (with_reducible refine q18.mono ?_); rintro e w2 ⟨vs, rfl, hr2, hb2⟩
       have hi2 := ints_own hr2
       obtain ⟨X2, c2, rfl⟩ : ∃ X c, vs = .slice X 0 c := by have := intsO_slice' hi2; rw [hz0.out] at this; exact this
       have hk2 := Keep.mk (hk1.out.put hb2 hi2)
       clear hi2
       clear hr2 hb2 q18 hk1)
    | (go_at_call 30; have hp3 := hk2.out.ps; have hv3_1 := hk2.out.at (z := (zsOf S)) (.head _);
       (with_reducible refine (q30.out _ _ _  hp3 hv3_1).mono ?_); rintro e w3 ⟨vc, rfl, hi3, hb3⟩
       have hk3 := Keep.mk (hk2.out.put hb3 hi3)
       clear hi3 hb3 hp3 hv3_1 hk2)
    | (go_at_call 31; have hp4 := hk3.out.ps; have hv4_1 := hk3.out.at (z := (zsOf S)) (.tail _ (.head _));
       (with_reducible refine (q31.out _ _ _  hp4 hv4_1).mono ?_); rintro e w4 ⟨vd, rfl, hi4, hb4⟩
       have hk4 := Keep.mk (hk3.out.put hb4 hi4)
       clear hi4 hb4 hp4 hv4_1 hk3)
    | (go_at_call 22; have hp5 := hk4.out.ps; have hv5_1 := hk4.out.at (z := (zsOf S)) (.tail _ (.tail _ (.head _)));
       (with_reducible refine (q22.out _ _ _  hp5 hv5_1).mono ?_); rintro e w5 ⟨rfl, hb5⟩
       have hk5 := Keep.mk (hk4.out.keep hb5)
       clear hb5 hp5 hv5_1 hk4)
    | (go_at_call 32; (with_reducible refine (q32 _).mono ?_); rintro e wm ⟨rfl, hem⟩; rw [hem]; clear hem wm)
    | (go_at_call 24; have hp := hk5.out.ps; (with_reducible refine (q24.out _ _ hp).mono ?_); rintro e w6 ⟨G, rfl, hG, hGl, hb⟩
       have hk6 := Keep.mk (hk5.out.keep hb)
       have hGk := Keep.mk hG
       clear hG hGl hb hp hk5 q24)
    | (go_at_call 26; have hvx := hk6.out.at (z := (zsOf S)) (.tail _ (.tail _ (.head _)))
       (with_reducible refine (q26.out _ _ hvx).mono ?_); rintro e wm ⟨rfl, hem⟩; rw [hem]; clear hem wm hvx)
    | (go_at_call 33; have hG := hGk.out; (with_reducible refine (q33.out _ _ hG).mono ?_); rintro e w7 ⟨rfl, hb⟩
       have hk7 := Keep.mk (hk6.out.keep hb)
       clear hG hb hk6 q33)
    | (go_at_call 28; (with_reducible refine (q28 _).mono ?_); rintro e w8 ⟨vw, rfl, hi8, hb8⟩
       have hk8 := Keep.mk (hk7.out.put hb8 hi8)
       clear hi8 hb8 hk7 q28)
    | (go_at_call 27; have hva := hk8.out.at (v := vc) (z := zsOf C) (.tail _ (.tail _ (.head _))); have hvb := hk8.out.at (v := vw) (z := zsOf C) (.head _)
       (with_reducible refine (same_any hva hvb (Nat.le_trans (zs_len _) (by omega))).mono ?_); rintro e w9 ⟨rfl, nq9, hq9⟩
       have hk9 := Keep.mk (hk8.out.dn nq9)
       rw [← hq9] at hk9
       clear hva hvb hk8 hq9)
    | (go_at_call 29; (with_reducible refine (q29 _ _ _).mono ?_); rintro e wm ⟨rfl, hem⟩; rw [hem]; clear hem wm)
    | (go_at_call 28; (with_reducible refine (q28f _).mono ?_); rintro e w10 ⟨vf, rfl, hi10, hb10⟩
       have hk10 := Keep.mk (hk9.out.put hb10 hi10)
       clear hi10 hb10 hk9 q28f)
    | (go_at_call 27; have hva := hk10.out.at (v := vd) (z := zsOf F) (.tail _ (.tail _ (.head _))); have hvb := hk10.out.at (v := vf) (z := zsOf F) (.head _)
       (with_reducible refine (same_any hva hvb (Nat.le_trans (zs_len _) (by omega))).mono ?_); rintro e w11 ⟨rfl, nq11, hq11⟩
       have hk11 := Keep.mk (hk10.out.dn nq11)
       rw [← hq11] at hk11
       clear hva hvb hk10 hq11)
    | (go_at_call 23; (with_reducible refine (awake_w _).mono ?_); rintro e w12 ⟨rfl, hb12⟩
       have hk12 := Keep.mk (hk11.out.keep hb12)
       clear hb12 hk11))
  all_goals (refine bodyPost_ret (v := .bool true) (by simp [results, Try.results4, go_sem]) rfl ?_; exact ⟨rfl, hk12.out.2.2⟩)
set_option maxHeartbeats 8000000 in
set_option maxRecDepth 100000 in
theorem soaks_more_inv (n : Int) {v1 v2 : Value} {ps : Pts} {zs L : List Int} {z : Int} {w : World} (hv : ArgP w v1 ps) (hz : ArgZ w v2 zs) (hz13 : zs.take 13 = z :: L) (hno : ¬ (GrOk n (ps.take 80) ∧ ListOk n L)) :
    Calls Try.prog 4 #[.int .i64 n, v1, v2] w fun e w' => e = .returned (.bool true) ∧ Below w.heap.size w w' := by
  have q17 := pairs_arg hv
  have hzk := Keep.mk hz
  have hpl : (ps.take 80).length ≤ 200 := by rw [List.length_take]; omega
  have hzl : L.length ≤ 100 := by
    have h1 : (zs.take 13).length ≤ 13 := by rw [List.length_take]; omega
    rw [hz13] at h1
    simp only [List.length_cons, List.length_nil] at h1 ⊢
    omega
  obtain ⟨m, hm⟩ : ∃ m, L.length = m := ⟨_, rfl⟩
  have n30 : Keep (∀ (W : World) (ve v : Value), PairsOf W ve (ps.take 80) → IntsO W v L → _) := ⟨fun W ve v he hv => Soak_no (n := n) (r := z) he hpl hv hzl hno⟩
  have n31 : Keep (∀ (W : World) (ve v : Value), PairsOf W ve (ps.take 80) → IntsO W v L → _) := ⟨fun W ve v he hv => Shelter_no (n := n) (r := z) he hpl hv hzl hno⟩
  have n22 : Keep (∀ (W : World) (ve v : Value), PairsOf W ve (ps.take 80) → IntsO W v L → Calls Try.prog 22 #[.int .i64 n, ve, v] W fun e w' => e = .returned (.bool false) ∧ Below W.heap.size W w') := ⟨fun W ve v he hv => (valid_no (n := n) he hpl hv hzl hno).mono fun e w' ⟨h1, q, h2⟩ => ⟨h1, by rw [h2]; exact below_dn W q⟩⟩
  clear hno hpl hzl hv hz
  go_enter Try.func4, Try.ntmps4
  go_wp2_with (first
    | (go_at_call 17; (with_reducible refine q17.mono ?_); rintro e w1 ⟨vl, rfl, hr1, hb1⟩
       have hk1 : Keep (Hd w w1 vl (ps.take 80) []) := ⟨⟨own_pairs hr1, fun x hx => by simp at hx, hb1⟩⟩
       have q18 := list_arg (argZ_below hzk.out hb1)
       rw [hz13] at q18
       clear hr1 hb1 q17)
    | (go_at_call 18; (with_reducible refine q18.mono ?_); rintro e w2 ⟨vs, rfl, hr2, hb2⟩
       obtain ⟨g2, c2, rfl, h02, hor⟩ := rest_of hm hr2
       have hl2 := hk1.out.keep hb2
       have hor2 : (c2 = 1 ∧ Keep (Hd w w2 vl (ps.take 80) [(.slice (some ⟨g2, 0, none⟩) m 0, L)])) ∨ (¬ c2 = 1 ∧ Keep (Hd w w2 vl (ps.take 80) [(.slice (some ⟨g2, 1, none⟩) m (c2 - 1), L)])) := by
         rcases hor with ⟨h1, h2⟩ | ⟨h1, h2⟩
         · exact .inl ⟨h1, ⟨hl2.put (Below.refl _ _) h2⟩⟩
         · exact .inr ⟨h1, ⟨hl2.put (Below.refl _ _) h2⟩⟩
       clear hl2 hor
       rcases hor2 with ⟨hc1, hk2⟩ | ⟨hc1, hk2⟩
       clear hr2 hb2 q18 hk1)
    | (go_at_call 30; have hp3 := hk2.out.ps; have hv3_1 := hk2.out.at (z := L) (.head _);
       (with_reducible refine (n30.out _ _ _  hp3 hv3_1).mono ?_); rintro e w3 ⟨rfl, hb3⟩
       have hk3 := Keep.mk (hk2.out.keep hb3)
       clear hb3 hp3 hv3_1 hk2)
    | (go_at_call 31; have hp4 := hk3.out.ps; have hv4_1 := hk3.out.at (z := L) (.head _);
       (with_reducible refine (n31.out _ _ _  hp4 hv4_1).mono ?_); rintro e w4 ⟨rfl, hb4⟩
       have hk4 := Keep.mk (hk3.out.keep hb4)
       clear hb4 hp4 hv4_1 hk3)
    | (go_at_call 22; have hp5 := hk4.out.ps; have hv5_1 := hk4.out.at (z := L) (.head _);
       (with_reducible refine (n22.out _ _ _  hp5 hv5_1).mono ?_); rintro e w5 ⟨rfl, hb5⟩
       have hk5 := Keep.mk (hk4.out.keep hb5)
       clear hb5 hp5 hv5_1 hk4)
    | (go_at_call 23; (with_reducible refine (awake_w _).mono ?_); rintro e w6 ⟨rfl, hb6⟩
       have hk6 := Keep.mk (hk5.out.keep hb6)
       clear hb6 hk5))
  all_goals (refine bodyPost_ret (v := .bool true) (by simp [results, Try.results4, go_sem]) rfl ?_; exact ⟨rfl, hk6.out.2.2⟩)
set_option maxHeartbeats 8000000 in
set_option maxRecDepth 100000 in
theorem soaks_more_thr {n : Nat} {v1 v2 : Value} {ps : Pts} {zs L : List Int} {z : Int} {w : World} (hv : ArgP w v1 ps) (hz : ArgZ w v2 zs) (hz13 : zs.take 13 = z :: L) (hok : GrOk n (ps.take 80) ∧ ListOk n L) (hno : ¬ (1 ≤ z ∧ z ≤ 6)) :
    Calls Try.prog 4 #[.int .i64 n, v1, v2] w fun e w' => e = .returned (.bool true) ∧ Below w.heap.size w w' := by
  have q17 := pairs_arg hv
  have hzk := Keep.mk hz
  have hpl : (ps.take 80).length ≤ 200 := by rw [List.length_take]; omega
  have hzl : L.length ≤ 100 := by
    have h1 : (zs.take 13).length ≤ 13 := by rw [List.length_take]; omega
    rw [hz13] at h1
    simp only [List.length_cons, List.length_nil] at h1 ⊢
    omega
  obtain ⟨m, hm⟩ : ∃ m, L.length = m := ⟨_, rfl⟩
  have n30 : Keep (∀ (W : World) (ve v : Value), PairsOf W ve (ps.take 80) → IntsO W v L → _) := ⟨fun W ve v he hv => Soak_nor (n := n) (r := z) he hok.1 hpl hv hok.2 hzl hno⟩
  have n31 : Keep (∀ (W : World) (ve v : Value), PairsOf W ve (ps.take 80) → IntsO W v L → _) := ⟨fun W ve v he hv => Shelter_nor (n := n) (r := z) he hok.1 hpl hv hok.2 hzl hno⟩
  have n22 : Keep (∀ (W : World) (ve v : Value), PairsOf W ve (ps.take 80) → IntsO W v L → Calls Try.prog 22 #[.int .i64 n, ve, v] W fun e w' => e = .returned (.bool true) ∧ Below W.heap.size W w') := ⟨fun W ve v he hv => (valid_yes (n := n) he hok.1 hpl hv hok.2 hzl).mono fun e w' ⟨h1, q, h2⟩ => ⟨h1, by rw [h2]; exact below_dn W q⟩⟩
  have n32 := thr_any z
  rw [decide_eq_false hno] at n32
  clear hno hok hpl hzl hv hz
  go_enter Try.func4, Try.ntmps4
  go_wp2_with (first
    | (go_at_call 17; (with_reducible refine q17.mono ?_); rintro e w1 ⟨vl, rfl, hr1, hb1⟩
       have hk1 : Keep (Hd w w1 vl (ps.take 80) []) := ⟨⟨own_pairs hr1, fun x hx => by simp at hx, hb1⟩⟩
       have q18 := list_arg (argZ_below hzk.out hb1)
       rw [hz13] at q18
       clear hr1 hb1 q17)
    | (go_at_call 18; (with_reducible refine q18.mono ?_); rintro e w2 ⟨vs, rfl, hr2, hb2⟩
       obtain ⟨g2, c2, rfl, h02, hor⟩ := rest_of hm hr2
       have hl2 := hk1.out.keep hb2
       have hor2 : (c2 = 1 ∧ Keep (Hd w w2 vl (ps.take 80) [(.slice (some ⟨g2, 0, none⟩) m 0, L)])) ∨ (¬ c2 = 1 ∧ Keep (Hd w w2 vl (ps.take 80) [(.slice (some ⟨g2, 1, none⟩) m (c2 - 1), L)])) := by
         rcases hor with ⟨h1, h2⟩ | ⟨h1, h2⟩
         · exact .inl ⟨h1, ⟨hl2.put (Below.refl _ _) h2⟩⟩
         · exact .inr ⟨h1, ⟨hl2.put (Below.refl _ _) h2⟩⟩
       clear hl2 hor
       rcases hor2 with ⟨hc1, hk2⟩ | ⟨hc1, hk2⟩
       clear hr2 hb2 q18 hk1)
    | (go_at_call 30; have hp3 := hk2.out.ps; have hv3_1 := hk2.out.at (z := L) (.head _);
       (with_reducible refine (n30.out _ _ _  hp3 hv3_1).mono ?_); rintro e w3 ⟨rfl, hb3⟩
       have hk3 := Keep.mk (hk2.out.keep hb3)
       clear hb3 hp3 hv3_1 hk2)
    | (go_at_call 31; have hp4 := hk3.out.ps; have hv4_1 := hk3.out.at (z := L) (.head _);
       (with_reducible refine (n31.out _ _ _  hp4 hv4_1).mono ?_); rintro e w4 ⟨rfl, hb4⟩
       have hk4 := Keep.mk (hk3.out.keep hb4)
       clear hb4 hp4 hv4_1 hk3)
    | (go_at_call 22; have hp5 := hk4.out.ps; have hv5_1 := hk4.out.at (z := L) (.head _);
       (with_reducible refine (n22.out _ _ _  hp5 hv5_1).mono ?_); rintro e w5 ⟨rfl, hb5⟩
       have hk5 := Keep.mk (hk4.out.keep hb5)
       clear hb5 hp5 hv5_1 hk4)
    | (go_at_call 32; (with_reducible refine (n32 _).mono ?_); rintro e wm ⟨rfl, hem⟩; rw [hem]; clear hem wm)
    | (go_at_call 23; (with_reducible refine (awake_w _).mono ?_); rintro e w6 ⟨rfl, hb6⟩
       have hk6 := Keep.mk (hk5.out.keep hb6)
       clear hb6 hk5))
  all_goals (refine bodyPost_ret (v := .bool true) (by simp [results, Try.results4, go_sem]) rfl ?_; exact ⟨rfl, hk6.out.2.2⟩)
set_option maxHeartbeats 8000000 in
set_option maxRecDepth 100000 in
theorem soaks_more_wet {n : Nat} {v1 v2 : Value} {ps : Pts} {zs L : List Int} {z : Int} {w : World} (hv : ArgP w v1 ps) (hz : ArgZ w v2 zs) (hz13 : zs.take 13 = z :: L) {E : Pts} {S : Nat → Bool} (hE : ps.take 80 = E) (hG : GOk n E) (hS : InN n S) (hzs : L = zsOf S) (hr : 1 ≤ z ∧ z ≤ 6) (hy : eqb (clo (sokd n (adjOf E) z) S) (allS n) = true) :
    Calls Try.prog 4 #[.int .i64 n, v1, v2] w fun e w' => e = .returned (.bool true) ∧ Below w.heap.size w w' := by
  have q17 := pairs_arg hv
  have hzk := Keep.mk hz
  have hpl : (ps.take 80).length ≤ 200 := by rw [List.length_take]; omega
  have hzl : L.length ≤ 100 := by
    have h1 : (zs.take 13).length ≤ 13 := by rw [List.length_take]; omega
    rw [hz13] at h1
    simp only [List.length_cons, List.length_nil] at h1 ⊢
    omega
  obtain ⟨m, hm⟩ : ∃ m, L.length = m := ⟨_, rfl⟩
  rw [hE] at q17
  rw [hzs] at hz13 hm
  have hN := hG.n12
  obtain ⟨hr1, hr6⟩ := hr
  have hCin := inN_soak z hG hS
  have q30 := Keep.mk (fun (W : World) (ve v : Value) (he : PairsOf W ve E) (hv : IntsO W v (zsOf S)) => oSoak (r := z) hG hr1 hr6 he hS hv)
  have q22 := Keep.mk (valid_yesG hG hS)
  have q24 := Keep.mk (fun (W : World) (ve : Value) (he : PairsOf W ve E) => near_any hG he)
  have q33 := Keep.mk (fun (W : World) (G : Nat) (hg : NumsAt W G n 3 (nearOf E)) => refSoak_any (r := z) hG (s := S) (n := num S) rfl hg)
  have q26 := Keep.mk (set_n (s := S) rfl)
  have q32 := thr_any z
  rw [decide_eq_true ⟨hr1, hr6⟩] at q32
  have q31 := Keep.mk (oShelNil (r := z) hG hr1 hr6 hS hy)
  obtain ⟨K, hK⟩ : ∃ K, kfOf (sokd n (adjOf E) z) S = K := ⟨_, rfl⟩
  obtain ⟨C, hC⟩ : ∃ C, clo (sokd n (adjOf E) z) S = C := ⟨_, rfl⟩
  rw [hK] at q30 q33
  rw [hC] at q30 q33 hCin hy
  have q28 := fun W => oList (N := n) (s := C) rfl W
  have q29 := fun p cap w => refAll_any hN p cap w
  obtain ⟨nC, hnC⟩ : ∃ nC, num C = nC := ⟨_, rfl⟩
  rw [hnC] at q33 q28
  obtain ⟨nS, hnS⟩ : ∃ nS, num S = nS := ⟨_, rfl⟩
  rw [hnS] at q33 q26
  have hwA : num (allS n) = nC := by rw [← hnC]; exact num_ext fun j hj => (eqb_iff.1 hy j hj).symm
  rw [hwA] at q29
  clear hwA hy hK hC hnC hnS hCin hS hG hr1 hr6 hE hpl hzl hv hz
  go_enter Try.func4, Try.ntmps4
  go_wp2_with (first
    | (go_at_call 17; (with_reducible refine q17.mono ?_); rintro e w1 ⟨vl, rfl, hr1, hb1⟩
       have hk1 : Keep (Hd w w1 vl E []) := ⟨⟨own_pairs hr1, fun x hx => by simp at hx, hb1⟩⟩
       have q18 := list_arg (argZ_below hzk.out hb1)
       rw [hz13] at q18
       clear hr1 hb1 q17)
    | (go_at_call 18; (with_reducible refine q18.mono ?_); rintro e w2 ⟨vs, rfl, hr2, hb2⟩
       obtain ⟨g2, c2, rfl, h02, hor⟩ := rest_of hm hr2
       have hl2 := hk1.out.keep hb2
       have hor2 : (c2 = 1 ∧ Keep (Hd w w2 vl E [(.slice (some ⟨g2, 0, none⟩) m 0, (zsOf S))])) ∨ (¬ c2 = 1 ∧ Keep (Hd w w2 vl E [(.slice (some ⟨g2, 1, none⟩) m (c2 - 1), (zsOf S))])) := by
         rcases hor with ⟨h1, h2⟩ | ⟨h1, h2⟩
         · exact .inl ⟨h1, ⟨hl2.put (Below.refl _ _) h2⟩⟩
         · exact .inr ⟨h1, ⟨hl2.put (Below.refl _ _) h2⟩⟩
       clear hl2 hor
       rcases hor2 with ⟨hc1, hk2⟩ | ⟨hc1, hk2⟩
       clear hr2 hb2 q18 hk1)
    | (go_at_call 30; have hp3 := hk2.out.ps; have hv3_1 := hk2.out.at (z := (zsOf S)) (.head _);
       (with_reducible refine (q30.out _ _ _  hp3 hv3_1).mono ?_); rintro e w3 ⟨vc, rfl, hi3, hb3⟩
       have hk3 := Keep.mk (hk2.out.put hb3 hi3)
       clear hi3 hb3 hp3 hv3_1 hk2)
    | (go_at_call 31; have hp := hk3.out.ps; have hv0 := hk3.out.at (z := (zsOf S)) (.tail _ (.head _))
       (with_reducible refine (q31.out _ _ _ hp hv0).mono ?_); rintro e w4 ⟨XX, cX, rfl, hb⟩
       have hk4 := Keep.mk (hk3.out.keep hb)
       clear hb hp hv0 hk3 q31)
    | (go_at_call 22; have hp5 := hk4.out.ps; have hv5_1 := hk4.out.at (z := (zsOf S)) (.tail _ (.head _));
       (with_reducible refine (q22.out _ _ _  hp5 hv5_1).mono ?_); rintro e w5 ⟨rfl, hb5⟩
       have hk5 := Keep.mk (hk4.out.keep hb5)
       clear hb5 hp5 hv5_1 hk4)
    | (go_at_call 32; (with_reducible refine (q32 _).mono ?_); rintro e wm ⟨rfl, hem⟩; rw [hem]; clear hem wm)
    | (go_at_call 24; have hp := hk5.out.ps; (with_reducible refine (q24.out _ _ hp).mono ?_); rintro e w6 ⟨G, rfl, hG, hGl, hb⟩
       have hk6 := Keep.mk (hk5.out.keep hb)
       have hGk := Keep.mk hG
       clear hG hGl hb hp hk5 q24)
    | (go_at_call 26; have hvx := hk6.out.at (z := (zsOf S)) (.tail _ (.head _))
       (with_reducible refine (q26.out _ _ hvx).mono ?_); rintro e wm ⟨rfl, hem⟩; rw [hem]; clear hem wm hvx)
    | (go_at_call 33; have hG := hGk.out; (with_reducible refine (q33.out _ _ hG).mono ?_); rintro e w7 ⟨rfl, hb⟩
       have hk7 := Keep.mk (hk6.out.keep hb)
       clear hG hb hk6 q33)
    | (go_at_call 28; (with_reducible refine (q28 _).mono ?_); rintro e w8 ⟨vw, rfl, hi8, hb8⟩
       have hk8 := Keep.mk (hk7.out.put hb8 hi8)
       clear hi8 hb8 hk7 q28)
    | (go_at_call 27; have hva := hk8.out.at (v := vc) (z := zsOf C) (.tail _ (.head _)); have hvb := hk8.out.at (v := vw) (z := zsOf C) (.head _)
       (with_reducible refine (same_any hva hvb (Nat.le_trans (zs_len _) (by omega))).mono ?_); rintro e w9 ⟨rfl, nq9, hq9⟩
       have hk9 := Keep.mk (hk8.out.dn nq9)
       rw [← hq9] at hk9
       clear hva hvb hk8 hq9)
    | (go_at_call 29; (with_reducible refine (q29 _ _ _).mono ?_); rintro e wm ⟨rfl, hem⟩; rw [hem]; clear hem wm)
    | (go_at_call 23; (with_reducible refine (awake_w _).mono ?_); rintro e w10 ⟨rfl, hb10⟩
       have hk10 := Keep.mk (hk9.out.keep hb10)
       clear hb10 hk9))
  all_goals (refine bodyPost_ret (v := .bool true) (by simp [results, Try.results4, go_sem]) rfl ?_; exact ⟨rfl, hk10.out.2.2⟩)
set_option maxHeartbeats 8000000 in
set_option maxRecDepth 100000 in
theorem soaks_more_dry {n : Nat} {v1 v2 : Value} {ps : Pts} {zs L : List Int} {z : Int} {w : World} (hv : ArgP w v1 ps) (hz : ArgZ w v2 zs) (hz13 : zs.take 13 = z :: L) {E : Pts} {S : Nat → Bool} (hE : ps.take 80 = E) (hG : GOk n E) (hS : InN n S) (hzs : L = zsOf S) (hr : 1 ≤ z ∧ z ≤ 6) (hy : eqb (clo (sokd n (adjOf E) z) S) (allS n) = false) :
    Calls Try.prog 4 #[.int .i64 n, v1, v2] w fun e w' => e = .returned (.bool true) ∧ Below w.heap.size w w' := by
  have q17 := pairs_arg hv
  have hzk := Keep.mk hz
  have hpl : (ps.take 80).length ≤ 200 := by rw [List.length_take]; omega
  have hzl : L.length ≤ 100 := by
    have h1 : (zs.take 13).length ≤ 13 := by rw [List.length_take]; omega
    rw [hz13] at h1
    simp only [List.length_cons, List.length_nil] at h1 ⊢
    omega
  obtain ⟨m, hm⟩ : ∃ m, L.length = m := ⟨_, rfl⟩
  rw [hE] at q17
  rw [hzs] at hz13 hm
  have hN := hG.n12
  obtain ⟨hr1, hr6⟩ := hr
  have hCin := inN_soak z hG hS
  have q30 := Keep.mk (fun (W : World) (ve v : Value) (he : PairsOf W ve E) (hv : IntsO W v (zsOf S)) => oSoak (r := z) hG hr1 hr6 he hS hv)
  have q22 := Keep.mk (valid_yesG hG hS)
  have q24 := Keep.mk (fun (W : World) (ve : Value) (he : PairsOf W ve E) => near_any hG he)
  have q33 := Keep.mk (fun (W : World) (G : Nat) (hg : NumsAt W G n 3 (nearOf E)) => refSoak_any (r := z) hG (s := S) (n := num S) rfl hg)
  have q26 := Keep.mk (set_n (s := S) rfl)
  have q32 := thr_any z
  rw [decide_eq_true ⟨hr1, hr6⟩] at q32
  have q31 := Keep.mk (oShelSome (r := z) hG hr1 hr6 hS hy (F := fun j => allS n j && !clo (sokd n (adjOf E) z) S j) rfl)
  obtain ⟨K, hK⟩ : ∃ K, kfOf (sokd n (adjOf E) z) S = K := ⟨_, rfl⟩
  obtain ⟨C, hC⟩ : ∃ C, clo (sokd n (adjOf E) z) S = C := ⟨_, rfl⟩
  rw [hK] at q30 q33
  rw [hC] at q30 q33 hCin hy
  have q28 := fun W => oList (N := n) (s := C) rfl W
  have q29 := fun p cap w => refAll_any hN p cap w
  obtain ⟨nC, hnC⟩ : ∃ nC, num C = nC := ⟨_, rfl⟩
  rw [hnC] at q33 q28
  obtain ⟨nS, hnS⟩ : ∃ nS, num S = nS := ⟨_, rfl⟩
  rw [hnS] at q33 q26
  rw [hC] at q31
  obtain ⟨F, hF⟩ : ∃ F, (fun j => allS n j && !C j) = F := ⟨_, rfl⟩
  rw [hF] at q31
  obtain ⟨nA, hnA⟩ : ∃ nA, num (allS n) = nA := ⟨_, rfl⟩
  rw [hnA] at q29
  have hne : ((nC : Int) == (nA : Int)) = false := by
    rw [beq_eq_false_iff_ne]
    intro h
    have : num C = num (allS n) := by omega
    rw [eqb_iff.2 (num_inj this)] at hy; cases hy
  have hsum := num_rest hN hCin
  rw [hF, ← num_all hN, hnC, hnA] at hsum
  have q28f := fun W => oList (N := n) (s := F) rfl W
  obtain ⟨nF, hnF⟩ : ∃ nF, num F = nF := ⟨_, rfl⟩
  rw [hnF] at q28f hsum
  have hsub : IntKind.i64.wrap ((nA : Int) - (nC : Int)) = (nF : Int) := by
    have := num_mod (allS n) C (by rw [hnA, hnC]; omega)
    rw [hnA, hnC] at this
    rw [this]; omega
  clear hy hK hC hnC hnS hCin hS hG hF hnA hsum hnF hr1 hr6 hE hpl hzl hv hz
  go_enter Try.func4, Try.ntmps4
  go_wp2_with (first
    | (go_at_call 17; (with_reducible refine q17.mono ?_); rintro e w1 ⟨vl, rfl, hr1, hb1⟩
       have hk1 : Keep (Hd w w1 vl E []) := ⟨⟨own_pairs hr1, fun x hx => by simp at hx, hb1⟩⟩
       have q18 := list_arg (argZ_below hzk.out hb1)
       rw [hz13] at q18
       clear hr1 hb1 q17)
    | (go_at_call 18; (with_reducible refine q18.mono ?_); rintro e w2 ⟨vs, rfl, hr2, hb2⟩
       obtain ⟨g2, c2, rfl, h02, hor⟩ := rest_of hm hr2
       have hl2 := hk1.out.keep hb2
       have hor2 : (c2 = 1 ∧ Keep (Hd w w2 vl E [(.slice (some ⟨g2, 0, none⟩) m 0, (zsOf S))])) ∨ (¬ c2 = 1 ∧ Keep (Hd w w2 vl E [(.slice (some ⟨g2, 1, none⟩) m (c2 - 1), (zsOf S))])) := by
         rcases hor with ⟨h1, h2⟩ | ⟨h1, h2⟩
         · exact .inl ⟨h1, ⟨hl2.put (Below.refl _ _) h2⟩⟩
         · exact .inr ⟨h1, ⟨hl2.put (Below.refl _ _) h2⟩⟩
       clear hl2 hor
       rcases hor2 with ⟨hc1, hk2⟩ | ⟨hc1, hk2⟩
       clear hr2 hb2 q18 hk1)
    | (go_at_call 30; have hp3 := hk2.out.ps; have hv3_1 := hk2.out.at (z := (zsOf S)) (.head _);
       (with_reducible refine (q30.out _ _ _  hp3 hv3_1).mono ?_); rintro e w3 ⟨vc, rfl, hi3, hb3⟩
       have hk3 := Keep.mk (hk2.out.put hb3 hi3)
       clear hi3 hb3 hp3 hv3_1 hk2)
    | (go_at_call 31; have hp4 := hk3.out.ps; have hv4_1 := hk3.out.at (z := (zsOf S)) (.tail _ (.head _));
       (with_reducible refine (q31.out _ _ _  hp4 hv4_1).mono ?_); rintro e w4 ⟨vd, rfl, hi4, hb4⟩
       have hk4 := Keep.mk (hk3.out.put hb4 hi4)
       clear hi4 hb4 hp4 hv4_1 hk3)
    | (go_at_call 22; have hp5 := hk4.out.ps; have hv5_1 := hk4.out.at (z := (zsOf S)) (.tail _ (.tail _ (.head _)));
       (with_reducible refine (q22.out _ _ _  hp5 hv5_1).mono ?_); rintro e w5 ⟨rfl, hb5⟩
       have hk5 := Keep.mk (hk4.out.keep hb5)
       clear hb5 hp5 hv5_1 hk4)
    | (go_at_call 32; (with_reducible refine (q32 _).mono ?_); rintro e wm ⟨rfl, hem⟩; rw [hem]; clear hem wm)
    | (go_at_call 24; have hp := hk5.out.ps; (with_reducible refine (q24.out _ _ hp).mono ?_); rintro e w6 ⟨G, rfl, hG, hGl, hb⟩
       have hk6 := Keep.mk (hk5.out.keep hb)
       have hGk := Keep.mk hG
       clear hG hGl hb hp hk5 q24)
    | (go_at_call 26; have hvx := hk6.out.at (z := (zsOf S)) (.tail _ (.tail _ (.head _)))
       (with_reducible refine (q26.out _ _ hvx).mono ?_); rintro e wm ⟨rfl, hem⟩; rw [hem]; clear hem wm hvx)
    | (go_at_call 33; have hG := hGk.out; (with_reducible refine (q33.out _ _ hG).mono ?_); rintro e w7 ⟨rfl, hb⟩
       have hk7 := Keep.mk (hk6.out.keep hb)
       clear hG hb hk6 q33)
    | (go_at_call 28; (with_reducible refine (q28 _).mono ?_); rintro e w8 ⟨vw, rfl, hi8, hb8⟩
       have hk8 := Keep.mk (hk7.out.put hb8 hi8)
       clear hi8 hb8 hk7 q28)
    | (go_at_call 27; have hva := hk8.out.at (v := vc) (z := zsOf C) (.tail _ (.tail _ (.head _))); have hvb := hk8.out.at (v := vw) (z := zsOf C) (.head _)
       (with_reducible refine (same_any hva hvb (Nat.le_trans (zs_len _) (by omega))).mono ?_); rintro e w9 ⟨rfl, nq9, hq9⟩
       have hk9 := Keep.mk (hk8.out.dn nq9)
       rw [← hq9] at hk9
       clear hva hvb hk8 hq9)
    | (go_at_call 29; (with_reducible refine (q29 _ _ _).mono ?_); rintro e wm ⟨rfl, hem⟩; rw [hem]; clear hem wm)
    | (go_at_call 28; (with_reducible refine (q28f _).mono ?_); rintro e w10 ⟨vf, rfl, hi10, hb10⟩
       have hk10 := Keep.mk (hk9.out.put hb10 hi10)
       clear hi10 hb10 hk9 q28f)
    | (go_at_call 27; have hva := hk10.out.at (v := vd) (z := zsOf F) (.tail _ (.tail _ (.head _))); have hvb := hk10.out.at (v := vf) (z := zsOf F) (.head _)
       (with_reducible refine (same_any hva hvb (Nat.le_trans (zs_len _) (by omega))).mono ?_); rintro e w11 ⟨rfl, nq11, hq11⟩
       have hk11 := Keep.mk (hk10.out.dn nq11)
       rw [← hq11] at hk11
       clear hva hvb hk10 hq11)
    | (go_at_call 23; (with_reducible refine (awake_w _).mono ?_); rintro e w12 ⟨rfl, hb12⟩
       have hk12 := Keep.mk (hk11.out.keep hb12)
       clear hb12 hk11))
  all_goals (refine bodyPost_ret (v := .bool true) (by simp [results, Try.results4, go_sem]) rfl ?_; exact ⟨rfl, hk12.out.2.2⟩)
theorem soaks_any (n : Int) {v1 v2 : Value} {ps : Pts} {zs : List Int} {w : World} (hv : ArgP w v1 ps) (hz : ArgZ w v2 zs) :
    Calls Try.prog 4 #[.int .i64 n, v1, v2] w fun e w' => e = .returned (.bool true) ∧ Below w.heap.size w w' := by
  cases hz13 : zs.take 13 with
  | nil =>
    by_cases hok : GrOk n (ps.take 80) ∧ ListOk n []
    · obtain ⟨N, rfl⟩ : ∃ N : Nat, n = N := ⟨n.toNat, by have := hok.1.n1; omega⟩
      have hG := gok_of hok.1
      obtain ⟨hzs, hS⟩ := canon hok.2 hG.n12
      cases hy : eqb (clo (sokd N (adjOf (ps.take 80)) 1) (setOf [])) (allS N) with
      | true => exact soaks_nil_wet hv hz hz13 rfl hG hS hzs ⟨by omega, by omega⟩ hy (L := []) (z := 0)
      | false => exact soaks_nil_dry hv hz hz13 rfl hG hS hzs ⟨by omega, by omega⟩ hy (L := []) (z := 0)
    · exact soaks_nil_inv n hv hz hz13 hok (L := []) (z := 0)
  | cons z L =>
    by_cases hok : GrOk n (ps.take 80) ∧ ListOk n L
    · obtain ⟨N, rfl⟩ : ∃ N : Nat, n = N := ⟨n.toNat, by have := hok.1.n1; omega⟩
      by_cases hr : 1 ≤ z ∧ z ≤ 6
      · have hG := gok_of hok.1
        obtain ⟨hzs, hS⟩ := canon hok.2 hG.n12
        cases hy : eqb (clo (sokd N (adjOf (ps.take 80)) z) (setOf L)) (allS N) with
        | true => exact soaks_more_wet hv hz hz13 rfl hG hS hzs hr hy
        | false => exact soaks_more_dry hv hz hz13 rfl hG hS hzs hr hy
      · exact soaks_more_thr hv hz hz13 hok hr
    · exact soaks_more_inv n hv hz hz13 hok
end Go.Proofs.Yteekigpdiklppaa

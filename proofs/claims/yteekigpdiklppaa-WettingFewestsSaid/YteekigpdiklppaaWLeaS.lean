import Derived.Test.YteekigpdiklppaaWLea
set_option linter.unusedSimpArgs false
set_option linter.unusedVariables false
namespace Go.Proofs.Yteekigpdiklppaa
open Go Go.Proofs Go.RowKit Go.Seq
attribute [local go_sem] Oper.semAt_some
set_option maxRecDepth 100000 in
theorem soakRef_any {N n G : Nat} {E : Pts} {r : Int} {s : Nat → Bool} {w : World} (hG : GOk N E) (hn : num s = n) (hg : NumsAt w G N 3 (nearOf E)) :
    Calls Try.prog 76 #[.slice (some ⟨G, 0, none⟩) N N, .int .i64 (n : Nat), .int .i64 r] w fun e w' => e = .returned (.bool (soaking N E r s)) ∧ Below w.heap.size w w' := by
  have q33 := refSoak_any (r := r) hG hn hg
  have q29 := fun p cap w => refAll_any hG.n12 p cap w
  unfold soaking
  obtain ⟨C, hC⟩ : ∃ C, clo (sokd N (adjOf E) r) s = C := ⟨_, rfl⟩
  rw [hC] at q33 ⊢
  obtain ⟨nC, hnC⟩ : ∃ nC, num C = nC := ⟨_, rfl⟩
  rw [hnC] at q33
  obtain ⟨kk, hkk⟩ : ∃ kk, kfOf (sokd N (adjOf E) r) s = kk := ⟨_, rfl⟩
  rw [hkk] at q33
  obtain ⟨nA, hnA⟩ : ∃ nA, num (allS N) = nA := ⟨_, rfl⟩
  rw [hnA] at q29
  have hz : ((nC : Int) == (nA : Int)) = eqb C (allS N) := by
    rw [Bool.eq_iff_iff, beq_iff_eq, eqb_iff, ← hnC, ← hnA]
    constructor
    · intro h; exact num_inj (by omega)
    · intro h; rw [num_ext h]
  obtain ⟨z, hze⟩ : ∃ z, eqb C (allS N) = z := ⟨_, rfl⟩
  rw [hze] at hz ⊢
  clear hC hnC hnA hze hkk
  go_enter Try.func76, Try.ntmps76
  go_wp2_with (first
    | (go_at_call 33; (with_reducible refine q33.mono ?_); rintro e w5 ⟨rfl, hb5⟩
       have hbk := Keep.mk hb5
       clear hb5)
    | (go_at_call 29; (with_reducible refine (q29 _ _ _).mono ?_); rintro e wm ⟨rfl, hem⟩; rw [hem]; clear hem wm))
  refine bodyPost_ret (v := .bool z) (by simp [results, Try.results76, go_sem]) rfl ?_
  exact ⟨rfl, hbk.out⟩
set_option maxHeartbeats 4000000 in
set_option maxRecDepth 100000 in
theorem refFewest_any {N G : Nat} {E : Pts} {r : Int} (hr1 : 1 ≤ r) {w : World} (hG : GOk N E) (hg : NumsAt w G N 3 (nearOf E)) :
    Calls Try.prog 41 #[.slice (some ⟨G, 0, none⟩) N N, .int .i64 r] w fun e w' => e = .returned (.int .i64 (num (leastOf N (soaking N E r)) : Nat)) ∧ Below w.heap.size w w' := by
  have hN := hG.n12
  have q29 := fun p cap w => refAll_any hN p cap w
  have qW := Keep.mk (fun (s : Nat → Bool) (n : Nat) (W : World) (hs : InN N s) (hn : num s = n) (hg : NumsAt W G N 3 (nearOf E)) => soakRef_any (r := r) hG hn hg)
  have hdone := fun b (h : Lbi N (soaking N E r) (2 ^ N) b) => Lbi.done hN (fun s t e => soaking_cg e) (fun s h => soaking_ne hG hr1 h) (soaking_all hG r) h
  have hst := Lbi.start (N := N) (isW := (soaking N E r)) (soaking_all hG r)
  obtain ⟨P, hP⟩ : ∃ P : Nat, 2 ^ N = P := ⟨_, rfl⟩
  have wP : IntKind.i64.wrap (2 ^ N) = (P : Int) := by rw [← hP]; exact wrap_pow (by omega)
  have lP : P ≤ 4096 := by rw [← hP]; exact pow_lt (by omega)
  obtain ⟨isW, hisW⟩ : ∃ isW, (soaking N E r) = isW := ⟨_, rfl⟩
  rw [hisW] at hst hdone ⊢
  have hWa : ∀ s, (soaking N E r) s = isW s := fun s => by rw [← hisW]
  have hPk := Keep.mk hP
  rw [hP] at hdone
  obtain ⟨nA, hnA⟩ : ∃ nA, num (allS N) = nA := ⟨_, rfl⟩
  rw [hnA] at q29
  have hst0 := Keep.mk (And.intro hst hnA)
  have hg0 := Keep.mk (And.intro hg (Below.refl w.heap.size w))
  have hN0 : ¬ (N : Int) < 0 := by omega
  have hGk := Keep.mk hG
  clear hst hnA hisW hg hP hG
  go_enter Try.func41, Try.ntmps41
  go_wp2_with (first
    | (go_at_call 29; (with_reducible refine (q29 _ _ _).mono ?_); rintro e wm ⟨rfl, hem⟩; rw [hem]; clear hem wm))
  go_loopw [6, 5] (fun i bv wr => ∃ k : Nat, k ≤ P ∧ i = .int .i64 k ∧ ∃ b nb, bv = .int .i64 (nb : Nat) ∧ Keep (num b = nb) ∧ Keep (Lbi N isW k b) ∧ Keep (NumsAt wr G N 3 (nearOf E) ∧ Below w.heap.size w wr)) (fun i _ _ => P - (intOf i).toNat)
  case atStart => exact ⟨0, by omega, rfl, allS N, nA, rfl, ⟨hst0.out.2⟩, ⟨hst0.out.1⟩, hg0⟩
  case round =>
    obtain ⟨k, hk, rfl, b, nb, rfl, hnb, hL, hI⟩ := hrel
    have hw1 : IntKind.i64.wrap ((k : Int) + 1) = (k : Int) + 1 := IntWalk.i64_in _ (by omega)
    by_cases hlt : k < P
    · have hlt' : (k : Int) < (P : Int) := by omega
      have hkp : k < 2 ^ N := by rw [hPk.out]; exact hlt
      have hnk : num (setN k) = k := num_setN (by omega)
      rcases bef_tri (setN k) b with hb | hb
      · have q56 := fun (W : World) => before_yes (w := W) hnk hnb.out hb
        have qw := fun (W : World) (hg : NumsAt W G N 3 (nearOf E)) => qW.out (setN k) k W (setN_in hkp) hnk hg
        rw [hWa] at qw
        cases hw : isW (setN k) with
        | true =>
          rw [hw] at qw
          have hL2 := Keep.mk (hL.out.next hkp hb hw)
          have hnkk := Keep.mk hnk
          clear hw hb hkp hnk hL
          go_wp2_with (first
            | (go_at_call 56; (with_reducible refine (q56 _).mono ?_); rintro e w5 ⟨rfl, hb5⟩
               have hI5 : Keep (NumsAt w5 G N 3 (nearOf E) ∧ Below w.heap.size w w5) := ⟨hI.out.1.below hb5 hI.out.1.lt, hI.out.2.trans (hb5.mono hI.out.2.size)⟩
               clear hb5 hI q56)
            | (go_at_call 76; have hg5 := hI5.out.1; (with_reducible refine (qw _ hg5).mono ?_); rintro e w6 ⟨rfl, hb6⟩
               have hI6 : Keep (NumsAt w6 G N 3 (nearOf E) ∧ Below w.heap.size w w6) := ⟨hI5.out.1.below hb6 hI5.out.1.lt, hI5.out.2.trans (hb6.mono hI5.out.2.size)⟩
               clear hb6 hI5 hg5 qw))
          exact ⟨⟨k + 1, by omega, by go_num, setN k, k, rfl, hnkk, hL2, hI6⟩, by simp [intOf]; omega⟩
        | false =>
          rw [hw] at qw
          have hL2 := Keep.mk (hL.out.keep (fun h => by rw [hw] at h; cases h))
          clear hw hb hkp hnk hL
          go_wp2_with (first
            | (go_at_call 56; (with_reducible refine (q56 _).mono ?_); rintro e w5 ⟨rfl, hb5⟩
               have hI5 : Keep (NumsAt w5 G N 3 (nearOf E) ∧ Below w.heap.size w w5) := ⟨hI.out.1.below hb5 hI.out.1.lt, hI.out.2.trans (hb5.mono hI.out.2.size)⟩
               clear hb5 hI q56)
            | (go_at_call 76; have hg5 := hI5.out.1; (with_reducible refine (qw _ hg5).mono ?_); rintro e w6 ⟨rfl, hb6⟩
               have hI6 : Keep (NumsAt w6 G N 3 (nearOf E) ∧ Below w.heap.size w w6) := ⟨hI5.out.1.below hb6 hI5.out.1.lt, hI5.out.2.trans (hb6.mono hI5.out.2.size)⟩
               clear hb6 hI5 hg5 qw))
          exact ⟨⟨k + 1, by omega, by go_num, b, nb, rfl, hnb, hL2, hI6⟩, by simp [intOf]; omega⟩
      · have q56 := fun (W : World) => before_no (w := W) hnk hnb.out hb
        have hL2 := Keep.mk (hL.out.keep (fun _ => hb))
        clear hb hkp hnk hL
        go_wp2_with (first
          | (go_at_call 56; (with_reducible refine (q56 _).mono ?_); rintro e w5 ⟨rfl, hb5⟩
             have hI5 : Keep (NumsAt w5 G N 3 (nearOf E) ∧ Below w.heap.size w w5) := ⟨hI.out.1.below hb5 hI.out.1.lt, hI.out.2.trans (hb5.mono hI.out.2.size)⟩
             clear hb5 hI q56))
        exact ⟨⟨k + 1, by omega, by go_num, b, nb, rfl, hnb, hL2, hI5⟩, by simp [intOf]; omega⟩
    · obtain rfl : k = P := by omega
      have hlt' : ¬ (k : Int) < (k : Int) := by omega
      have hfin := Keep.mk (hdone b hL.out)
      go_wp2
      refine bodyPost_ret (v := .int .i64 (nb : Nat)) (by simp [results, Try.results41, go_sem]) rfl ?_
      exact ⟨by rw [← hfin.out, hnb.out], hI.out.2⟩
/-- Whether some smallest set that soaks also forces. -/
def shF (N : Nat) (E : Pts) (r : Int) (m : Nat) : Bool := decide (sz (setN m) = sz (leastOf N (soaking N E r))) && (soaking N E r (setN m) && forcing N E (setN m))
def sharedOf (N : Nat) (E : Pts) (r : Int) : Bool := (List.range (2 ^ N)).any (shF N E r)
set_option maxHeartbeats 4000000 in
set_option maxRecDepth 100000 in
theorem refShared_any {N G : Nat} {E : Pts} {r : Int} (hr1 : 1 ≤ r) {w : World} (hG : GOk N E) (hg : NumsAt w G N 3 (nearOf E)) :
    Calls Try.prog 42 #[.slice (some ⟨G, 0, none⟩) N N, .int .i64 r] w fun e w' => e = .returned (.bool (sharedOf N E r)) ∧ Below w.heap.size w w' := by
  have hN := hG.n12
  have q41 := fun (W : World) (hg : NumsAt W G N 3 (nearOf E)) => refFewest_any hr1 hG hg
  obtain ⟨F, hF⟩ : ∃ F, leastOf N (soaking N E r) = F := ⟨_, rfl⟩
  have hF2 := Keep.mk hF
  rw [hF] at q41
  obtain ⟨nF, hnF⟩ : ∃ nF, num F = nF := ⟨_, rfl⟩
  rw [hnF] at q41
  obtain ⟨lF, hlF⟩ : ∃ lF, sz F = lF := ⟨_, rfl⟩
  have q54F := fun W => count_any hnF hlF W
  have hsh : Keep (∀ m, shF N E r m = (decide (sz (setN m) = lF) && (soaking N E r (setN m) && forcing N E (setN m)))) := ⟨fun m => by unfold shF; rw [hF, hlF]⟩
  unfold sharedOf
  obtain ⟨P, hP⟩ : ∃ P : Nat, 2 ^ N = P := ⟨_, rfl⟩
  have wP : IntKind.i64.wrap (2 ^ N) = (P : Int) := by rw [← hP]; exact wrap_pow (by omega)
  have lP : P ≤ 4096 := by rw [← hP]; exact pow_lt (by omega)
  have hPk := Keep.mk hP
  rw [hP]
  have hN0 : ¬ (N : Int) < 0 := by omega
  have hg0 := Keep.mk (And.intro hg (Below.refl w.heap.size w))
  have hGk := Keep.mk hG
  clear hF hnF hlF hP hg hG
  go_enter Try.func42, Try.ntmps42
  go_wp2_with (first
    | (go_at_call 41; have hgx := hg0.out.1; (with_reducible refine (q41 _ hgx).mono ?_); rintro e w3 ⟨rfl, hb3⟩
       have hg3 : Keep (NumsAt w3 G N 3 (nearOf E) ∧ Below w.heap.size w w3) := ⟨hg0.out.1.below hb3 hg0.out.1.lt, hg0.out.2.trans (hb3.mono hg0.out.2.size)⟩
       clear hb3 hg0 hgx q41)
    | (go_at_call 54; (with_reducible refine (q54F _).mono ?_); rintro e w4 ⟨rfl, hb4⟩
       have hg4 : Keep (NumsAt w4 G N 3 (nearOf E) ∧ Below w.heap.size w w4) := ⟨hg3.out.1.below hb4 hg3.out.1.lt, hg3.out.2.trans (hb4.mono hg3.out.2.size)⟩
       clear hb4 hg3 q54F))
  go_loopw [6] (fun i wr => ∃ k : Nat, k ≤ P ∧ i = .int .i64 k ∧ Keep ((List.range k).any (shF N E r) = false) ∧ Keep (NumsAt wr G N 3 (nearOf E) ∧ Below w.heap.size w wr)) (fun i _ => P - (intOf i).toNat)
  case atStart => exact ⟨0, by omega, rfl, ⟨rfl⟩, hg4⟩
  case round =>
    obtain ⟨k, hk, rfl, hno, hI⟩ := hrel
    have hw1 : IntKind.i64.wrap ((k : Int) + 1) = (k : Int) + 1 := IntWalk.i64_in _ (by omega)
    by_cases hlt : k < P
    · have hlt' : (k : Int) < (P : Int) := by omega
      have hkp : k < 2 ^ N := by rw [hPk.out]; exact hlt
      have hnk : num (setN k) = k := num_setN (by omega)
      have hsin := setN_in hkp
      have q72 := fun (W : World) (hg : NumsAt W G N 3 (nearOf E)) => forcing_any hGk.out hsin hnk hg
      have q76 := fun (W : World) (hg : NumsAt W G N 3 (nearOf E)) => soakRef_any (r := r) hGk.out hnk hg
      obtain ⟨lk, hlk⟩ : ∃ lk, sz (setN k) = lk := ⟨_, rfl⟩
      have q54 := fun W => count_any hnk hlk W
      have hsk := hsh.out k
      rw [hlk] at hsk
      have hfn : shF N E r k = false → (List.range (k + 1)).any (shF N E r) = false := fun h => by
        rw [List.range_succ, List.any_append, hno.out]; simp [h]
      have hfy : shF N E r k = true → (List.range P).any (shF N E r) = true := fun h => List.any_eq_true.2 ⟨k, List.mem_range.2 hlt, h⟩
      obtain ⟨sb, hsb⟩ : ∃ sb, soaking N E r (setN k) = sb := ⟨_, rfl⟩
      obtain ⟨fb, hfb⟩ : ∃ fb, forcing N E (setN k) = fb := ⟨_, rfl⟩
      rw [hsb] at q76 hsk
      rw [hfb] at q72 hsk
      clear hsb hfb hlk hkp hnk hsin
      by_cases hl : lk = lF
      · subst hl
        rw [decide_eq_true rfl, Bool.true_and] at hsk
        cases sb with
        | false =>
          have hfn := Keep.mk (hfn hsk)
          clear hfy hsk
          go_wp2_with (first
            | (go_at_call 54; (with_reducible refine (q54 _).mono ?_); rintro e w5 ⟨rfl, hb5⟩
               have hI5 : Keep (NumsAt w5 G N 3 (nearOf E) ∧ Below w.heap.size w w5) := ⟨hI.out.1.below hb5 hI.out.1.lt, hI.out.2.trans (hb5.mono hI.out.2.size)⟩
               clear hb5 hI q54)
            | (go_at_call 76; have hg5 := hI5.out.1; (with_reducible refine (q76 _ hg5).mono ?_); rintro e w6 ⟨rfl, hb6⟩
               have hI6 : Keep (NumsAt w6 G N 3 (nearOf E) ∧ Below w.heap.size w w6) := ⟨hI5.out.1.below hb6 hI5.out.1.lt, hI5.out.2.trans (hb6.mono hI5.out.2.size)⟩
               clear hb6 hI5 hg5 q76))
          exact ⟨⟨k + 1, by omega, by go_num, hfn, hI6⟩, by simp [intOf]; omega⟩
        | true =>
          cases fb with
          | false =>
            have hfn := Keep.mk (hfn hsk)
            clear hfy hsk
            go_wp2_with (first
              | (go_at_call 54; (with_reducible refine (q54 _).mono ?_); rintro e w5 ⟨rfl, hb5⟩
                 have hI5 : Keep (NumsAt w5 G N 3 (nearOf E) ∧ Below w.heap.size w w5) := ⟨hI.out.1.below hb5 hI.out.1.lt, hI.out.2.trans (hb5.mono hI.out.2.size)⟩
                 clear hb5 hI q54)
              | (go_at_call 76; have hg5 := hI5.out.1; (with_reducible refine (q76 _ hg5).mono ?_); rintro e w6 ⟨rfl, hb6⟩
                 have hI6 : Keep (NumsAt w6 G N 3 (nearOf E) ∧ Below w.heap.size w w6) := ⟨hI5.out.1.below hb6 hI5.out.1.lt, hI5.out.2.trans (hb6.mono hI5.out.2.size)⟩
                 clear hb6 hI5 hg5 q76)
              | (go_at_call 72; have hg6 := hI6.out.1; (with_reducible refine (q72 _ hg6).mono ?_); rintro e w7 ⟨rfl, hb7⟩
                 have hI7 : Keep (NumsAt w7 G N 3 (nearOf E) ∧ Below w.heap.size w w7) := ⟨hI6.out.1.below hb7 hI6.out.1.lt, hI6.out.2.trans (hb7.mono hI6.out.2.size)⟩
                 clear hb7 hI6 hg6 q72))
            exact ⟨⟨k + 1, by omega, by go_num, hfn, hI7⟩, by simp [intOf]; omega⟩
          | true =>
            have hfy := Keep.mk (hfy hsk)
            clear hfn hsk
            go_wp2_with (first
              | (go_at_call 54; (with_reducible refine (q54 _).mono ?_); rintro e w5 ⟨rfl, hb5⟩
                 have hI5 : Keep (NumsAt w5 G N 3 (nearOf E) ∧ Below w.heap.size w w5) := ⟨hI.out.1.below hb5 hI.out.1.lt, hI.out.2.trans (hb5.mono hI.out.2.size)⟩
                 clear hb5 hI q54)
              | (go_at_call 76; have hg5 := hI5.out.1; (with_reducible refine (q76 _ hg5).mono ?_); rintro e w6 ⟨rfl, hb6⟩
                 have hI6 : Keep (NumsAt w6 G N 3 (nearOf E) ∧ Below w.heap.size w w6) := ⟨hI5.out.1.below hb6 hI5.out.1.lt, hI5.out.2.trans (hb6.mono hI5.out.2.size)⟩
                 clear hb6 hI5 hg5 q76)
              | (go_at_call 72; have hg6 := hI6.out.1; (with_reducible refine (q72 _ hg6).mono ?_); rintro e w7 ⟨rfl, hb7⟩
                 have hI7 : Keep (NumsAt w7 G N 3 (nearOf E) ∧ Below w.heap.size w w7) := ⟨hI6.out.1.below hb7 hI6.out.1.lt, hI6.out.2.trans (hb7.mono hI6.out.2.size)⟩
                 clear hb7 hI6 hg6 q72))
            refine bodyPost_ret (v := .bool true) (by simp [results, Try.results42, go_sem]) rfl ?_
            exact ⟨by rw [hfy.out], hI7.out.2⟩
      · rw [decide_eq_false hl, Bool.false_and] at hsk
        have hl' : ((lk : Int) == (lF : Int)) = false := by rw [beq_eq_false_iff_ne]; omega
        have hfn := Keep.mk (hfn hsk)
        clear hfy hsk hl
        go_wp2_with (first
          | (go_at_call 54; (with_reducible refine (q54 _).mono ?_); rintro e w5 ⟨rfl, hb5⟩
             have hI5 : Keep (NumsAt w5 G N 3 (nearOf E) ∧ Below w.heap.size w w5) := ⟨hI.out.1.below hb5 hI.out.1.lt, hI.out.2.trans (hb5.mono hI.out.2.size)⟩
             clear hb5 hI q54))
        exact ⟨⟨k + 1, by omega, by go_num, hfn, hI5⟩, by simp [intOf]; omega⟩
    · obtain rfl : P = k := by omega
      have hlt' : ¬ (P : Int) < (P : Int) := by omega
      go_wp2
      refine bodyPost_ret (v := .bool false) (by simp [results, Try.results42, go_sem]) rfl ?_
      exact ⟨by rw [hno.out], hI.out.2⟩
end Go.Proofs.Yteekigpdiklppaa

import Derived.Test.YteekigpdiklppaaWIns
set_option linter.unusedSimpArgs false
set_option linter.unusedVariables false
namespace Go.Proofs.Yteekigpdiklppaa
open Go Go.Proofs Go.RowKit Go.Seq
attribute [local go_sem] Oper.semAt_some
open Ins
/-- A list of numbers in memory, from the start of a block on; an empty one is none. -/
def NatsV (W : World) (A : Option Addr) (m c : Nat) (out : List Nat) : Prop := out.length = m ∧ ((m = 0 ∧ A = none ∧ c = 0) ∨ (1 ≤ m ∧ RowAt W (.slice A m c) (toI out)))
theorem NatsV.below {W W' : World} {A : Option Addr} {m c : Nat} {out : List Nat} (h : NatsV W A m c out) (b : Below W.heap.size W W') : NatsV W' A m c out := ⟨h.1, h.2.imp id fun h => ⟨h.1, row_below h.2 b⟩⟩
theorem NatsV.at {W : World} {A : Option Addr} {m c j : Nat} {out : List Nat} (h : NatsV W A m c out) (hj : j < m) : ∃ g, A = some ⟨g, 0, none⟩ ∧ W.cell? ⟨g, j, none⟩ = some (.int .i64 (out.getD j 0 : Nat)) := by
  rcases h.2 with ⟨h0, _⟩ | ⟨_, g, cap, hv, _, _, _, hc⟩
  · omega
  · injection hv with h1 h2 h3
    have hl : (toI out).length = m := h2.symm
    refine ⟨g, h1, ?_⟩
    have := hc j (by omega)
    rw [toI_at (by rw [h.1]; exact hj), Nat.zero_add] at this
    exact this
theorem getD_mem {out : List Nat} {j : Nat} (h : j < out.length) : out.getD j 0 ∈ out := by
  rw [List.getD_eq_getElem?_getD, List.getElem?_eq_getElem h]; exact List.getElem_mem _
theorem getD_some {out : List Nat} {j x : Nat} (h : out[j]? = some x) : j < out.length ∧ out.getD j 0 = x := by
  obtain ⟨h1, h2⟩ := List.getElem?_eq_some_iff.1 h
  exact ⟨h1, by rw [List.getD_eq_getElem?_getD, h]; rfl⟩
theorem taken {out : List Nat} {j : Nat} (h : j < out.length) : out.take (j + 1) = out.take j ++ [out.getD j 0] := by
  rw [List.take_add_one, List.getElem?_eq_getElem h, List.getD_eq_getElem?_getD, List.getElem?_eq_getElem h]; rfl
theorem ins_len (out : List Nat) (i k : Nat) (h : i ≤ out.length) : (out.take i ++ k :: out.drop i).length = out.length + 1 := by
  rw [List.length_append, List.length_cons, List.length_take, List.length_drop]; omega
set_option maxHeartbeats 16000000 in
set_option maxRecDepth 100000 in
theorem refForts_any {N G : Nat} {E : Pts} {w : World} (hG : GOk N E) (hg : NumsAt w G N 3 (nearOf E)) :
    Calls Try.prog 37 #[.slice (some ⟨G, 0, none⟩) N N] w fun e w' => ∃ A m c, e = .returned (.slice A m c) ∧ NatsV w' A m c ((fortsOf N (adjOf E)).map num) ∧ Below w.heap.size w w' := by
  obtain ⟨i0, hi0, hz0, hz1, hz2⟩ := info3_parts
  have hN := hG.n12
  have hN1 := hG.n1
  have hmem4 : Keep (∀ (k : Nat) (out : List Nat), k ≤ 2 ^ N → Fnd N (adjOf E) k out → ∀ x ∈ out, x < 4096) := ⟨fun k out hk h x hx => by
    have h1 := ((h.me x).1 hx).1
    have := Nat.pow_le_pow_right (n := 2) (by omega) hN
    have h2 : 2 ^ N ≤ 4096 := by simpa using this
    omega⟩
  have hlst := Keep.mk (fun (k : Nat) (out : List Nat) (h : Fnd N (adjOf E) k out) (h1 : 1 ≤ k) (h2 : k < 2 ^ N) => h.least hN h1 h2)
  have hdn := Keep.mk (fun (out : List Nat) (h : Fnd N (adjOf E) (2 ^ N) out) => h.done hN)
  have q47 := Keep.mk (fun (k : Nat) (W : World) (hk : k < 2 ^ N) (hn : num (setN k) = k) (hg : NumsAt W G N 3 (nearOf E)) => refFort_any hG (setN_in hk) hn hg)
  obtain ⟨P, hP⟩ : ∃ P : Nat, 2 ^ N = P := ⟨_, rfl⟩
  have wP : IntKind.i64.wrap (2 ^ N) = (P : Int) := by rw [← hP]; exact wrap_pow (by omega)
  have lP : P ≤ 4096 := by rw [← hP]; exact pow_lt (by omega)
  have hP2 : 2 ≤ P := by
    have := Nat.pow_le_pow_right (n := 2) (by omega) hN1
    rw [hP] at this; simpa using this
  rw [hP] at hmem4 hlst hdn q47
  have hN0 : ¬ (N : Int) < 0 := by omega
  have hF0 : Keep (Fnd N (adjOf E) 1 []) := ⟨⟨List.Pairwise.nil, fun m => ⟨fun h => by simp at h, fun ⟨h1, h2, _⟩ => by omega⟩⟩⟩
  have hz00 := Keep.mk (And.intro hg (Below.refl w.heap.size w))
  clear hG hg hP
  go_enter Try.func37, Try.ntmps37
  go_wp2
  go_loopw [4, 3] (fun i ov wr => ∃ (k : Nat) (out : List Nat) (A : Option Addr) (m c : Nat), 1 ≤ k ∧ k ≤ P ∧ i = .int .i64 k ∧ m + 1 ≤ k ∧ ov = .slice A m c ∧ Keep (Fnd N (adjOf E) k out) ∧ Keep (NatsV wr A m c out) ∧ Keep (NumsAt wr G N 3 (nearOf E) ∧ Below w.heap.size w wr)) (fun i _ _ => P - (intOf i).toNat)
  case atStart => exact ⟨1, [], none, 0, 0, by omega, by omega, rfl, by omega, rfl, hF0, ⟨rfl, .inl ⟨rfl, rfl, rfl⟩⟩, hz00⟩
  case round =>
    obtain ⟨k, out, A, m, c, hk1, hkP, rfl, hmk, rfl, hF, hR, hI⟩ := hrel
    have hw1 : IntKind.i64.wrap ((k : Int) + 1) = (k : Int) + 1 := IntWalk.i64_in _ (by omega)
    by_cases hlt : k < P
    · have hlt' : (k : Int) < (P : Int) := by omega
      have hnk : num (setN k) = k := num_setN (by omega)
      have q4 := fun (W : World) (hg : NumsAt W G N 3 (nearOf E)) => q47.out k W hlt hnk hg
      have hleast := Keep.mk (hlst.out k out hF.out hk1 hlt)
      have hx4 := Keep.mk (hmem4.out k out hkP hF.out)
      obtain ⟨b0, hb0⟩ : ∃ b0, isF N (adjOf E) (setN k) = b0 := ⟨_, rfl⟩
      rw [hb0] at q4 hleast
      have hnkk := Keep.mk hnk
      clear hb0 hnk
      go_wp2_with (first
        | (go_at_call 47; have hg := hI.out.1; (with_reducible refine (q4 _ hg).mono ?_); rintro e w5 ⟨rfl, hb5⟩
           have hR5 := Keep.mk (hR.out.below hb5)
           have hI5 : Keep (NumsAt w5 G N 3 (nearOf E) ∧ Below w.heap.size w w5) := ⟨hI.out.1.below hb5 hI.out.1.lt, hI.out.2.trans (hb5.mono hI.out.2.size)⟩
           clear hg hb5 q4 hR hI))
      go_loopw [6, 5] (fun jv lv wi => (∃ j : Nat, j ≤ m ∧ jv = .int .i64 j ∧ ∃ lb, lv = .bool lb ∧ Keep (lb = true ↔ b0 = true ∧ ∀ x ∈ out.take j, ¬ Sub (setN x) (setN k))) ∧ wi = w5) (fun i _ _ => m - (intOf i).toNat)
      case atStart => exact ⟨⟨0, by omega, rfl, b0, rfl, ⟨by simp⟩⟩, rfl⟩
      case round =>
        obtain ⟨⟨j, hj, rfl, lb, rfl, hlb⟩, rfl⟩ := hrel
        have hw2 : IntKind.i64.wrap ((j : Int) + 1) = (j : Int) + 1 := IntWalk.i64_in _ (by omega)
        by_cases hjm : j < m
        · have hjm' : (j : Int) < (m : Int) := by omega
          cases lb with
          | false =>
            have hno : Keep (¬ MinF N (adjOf E) (setN k)) := ⟨fun h => by
              have h1 := hleast.out.2 h
              have := hlb.out.2 ⟨h1.1, fun x hx => h1.2 x (List.mem_of_mem_take hx)⟩
              cases this⟩
            have hF2 := Keep.mk (hF.out.skip hno.out)
            have hz : Keep (NumsAt wr G N 3 (nearOf E) ∧ Below w.heap.size w wr) := hI5
            have hr5 := Keep.mk hR5.out
            clear hF
            go_wp2
            exact ⟨⟨k + 1, out, A, m, c, by omega, by omega, by go_num, by omega, rfl, hF2, hr5, hz⟩, by simp [intOf]; omega⟩
          | true =>
            have hj0 : ¬ (j : Int) < 0 := by omega
            obtain ⟨g, hA, cx⟩ := hR5.out.at hjm
            subst hA
            have hxm := getD_mem (out := out) (j := j) (by rw [hR5.out.1]; exact hjm)
            have htk := taken (out := out) (j := j) (by rw [hR5.out.1]; exact hjm)
            obtain ⟨x, hx⟩ : ∃ x, out.getD j 0 = x := ⟨_, rfl⟩
            rw [hx] at cx hxm htk
            have hx4' := hx4.out x hxm
            have hdf := num_diff (setN x) (setN k)
            rw [num_setN hx4', hnkk.out] at hdf
            have hsub := num_sub (s := setN x) (t := setN k)
            obtain ⟨dd, hdd⟩ : ∃ dd, num (fun j => setN x j && !setN k j) = dd := ⟨_, rfl⟩
            rw [hdd] at hdf hsub
            obtain ⟨lb2, hlb2⟩ : ∃ lb2, ((dd : Int) != 0) = lb2 := ⟨_, rfl⟩
            have hnew : Keep (lb2 = true ↔ b0 = true ∧ ∀ x ∈ out.take (j + 1), ¬ Sub (setN x) (setN k)) := ⟨by
              have h0 := hlb.out.1 rfl
              rw [← hlb2, htk]
              constructor
              · intro h
                refine ⟨h0.1, fun y hy => ?_⟩
                rcases List.mem_append.1 hy with hy | hy
                · exact h0.2 y hy
                · simp only [List.mem_singleton] at hy
                  subst hy
                  intro hs
                  have := hsub.2 hs
                  subst this
                  simp at h
              · rintro ⟨_, h⟩
                have hns := h x (List.mem_append_right _ (List.mem_singleton.2 rfl))
                have : dd ≠ 0 := fun e => hns (hsub.1 e)
                simp only [bne, Bool.not_eq_true', beq_eq_false_iff_ne]; omega⟩
            clear hlb hdd hsub htk hx hxm
            go_wp2
            exact ⟨⟨⟨j + 1, by omega, by go_num, lb2, rfl, hnew⟩, by first | trivial | rfl⟩, by simp [intOf]; omega⟩
        · obtain rfl : j = m := by omega
          have hjm' : ¬ (j : Int) < (j : Int) := by omega
          cases lb with
          | false =>
            have hno : Keep (¬ MinF N (adjOf E) (setN k)) := ⟨fun h => by
              have h1 := hleast.out.2 h
              have := hlb.out.2 ⟨h1.1, fun x hx => h1.2 x (List.mem_of_mem_take hx)⟩
              cases this⟩
            have hF2 := Keep.mk (hF.out.skip hno.out)
            have hz : Keep (NumsAt wr G N 3 (nearOf E) ∧ Below w.heap.size w wr) := hI5
            have hr5 := Keep.mk hR5.out
            clear hF
            go_wp2
            exact ⟨⟨k + 1, out, A, j, c, by omega, by omega, by go_num, by omega, rfl, hF2, hr5, hz⟩, by simp [intOf]; omega⟩
          | true =>
            have hmin : Keep (MinF N (adjOf E) (setN k)) := ⟨hleast.out.1 (by
              have := hlb.out.1 rfl
              rw [List.take_of_length_le (by rw [hR5.out.1]; omega)] at this
              exact this)⟩
            obtain ⟨m, hmj⟩ : ∃ m, m = j := ⟨_, rfl⟩
            subst hmj
            clear hlb hleast
            go_wp2
            go_loopw [7] (fun jv wi => ∃ j : Nat, j ≤ m ∧ jv = .int .i64 j ∧ Keep (∀ i, i < j → ∀ x, out[i]? = some x → BefN x k) ∧ Keep (NatsV wi A m c out) ∧ Keep (NumsAt wi G N 3 (nearOf E) ∧ Below w.heap.size w wi)) (fun i _ => m - (intOf i).toNat)
            case atStart => exact ⟨0, by omega, rfl, ⟨fun i hi => by omega⟩, hR5, hI5⟩
            case round =>
              obtain ⟨j, hj, rfl, hpre, hR6, hI6⟩ := hrel
              have hw3 : IntKind.i64.wrap ((j : Int) + 1) = (j : Int) + 1 := IntWalk.i64_in _ (by omega)
              have hrow1 := Keep.mk True.intro
              by_cases hjm : j < m
              · have hjm' : (j : Int) < (m : Int) := by omega
                have hj0 : ¬ (j : Int) < 0 := by omega
                obtain ⟨g0, hA, cx⟩ := hR6.out.at hjm
                have hlen := hR6.out.1
                have hxm := getD_mem (out := out) (j := j) (by omega)
                obtain ⟨x, hx⟩ : ∃ x, out.getD j 0 = x := ⟨_, rfl⟩
                rw [hx] at cx hxm
                have hx4' := hx4.out x hxm
                rcases bef_tri (setN x) (setN k) with hb | hb
                · have q56 := fun (W : World) => before_yes (w := W) (num_setN hx4') hnkk.out hb
                  have hpre2 : Keep (∀ i, i < j + 1 → ∀ x, out[i]? = some x → BefN x k) := ⟨fun i hi y hy => by
                    by_cases e : i = j
                    · subst e
                      obtain ⟨_, h2⟩ := getD_some hy
                      rw [← h2, hx]; exact hb
                    · exact hpre.out i (by omega) y hy⟩
                  subst hA
                  clear hpre hb hx hxm
                  go_wp2_with (first
                    | (go_at_call 56; (with_reducible refine (q56 _).mono ?_); rintro e w7 ⟨rfl, hb7⟩
                       have hR7 := Keep.mk (hR6.out.below hb7)
                       have hI7 : Keep (NumsAt w7 G N 3 (nearOf E) ∧ Below w.heap.size w w7) := ⟨hI6.out.1.below hb7 hI6.out.1.lt, hI6.out.2.trans (hb7.mono hI6.out.2.size)⟩
                       clear hb7 q56 hR6 hI6))
                  exact ⟨⟨j + 1, by omega, by go_num, hpre2, hR7, hI7⟩, by simp [intOf]; omega⟩
                · have q56 := fun (W : World) => before_no (w := W) (num_setN hx4') hnkk.out hb
                  have hstop : Keep (∀ y, out[j]? = some y → ¬ BefN y k) := ⟨fun y hy hc => by
                    obtain ⟨_, h2⟩ := getD_some hy
                    rw [hx] at h2
                    subst h2
                    exact bef_not hc hb⟩
                  obtain ⟨kk, hkk⟩ : ∃ kk, kk = j := ⟨_, rfl⟩
                  subst hkk
                  clear hb hx hxm
                  have hm1' : ¬ m = 0 := by omega
                  have hR66 := hR6
                  rcases hR6.out.2 with ⟨hm0, _⟩ | ⟨hm1, hrow⟩
                  · omega
                  · obtain ⟨g, cap, hv, hcap, hmax, hg, hcells⟩ := id hrow
                    injection hv with h1 h2 h3
                    have h3 := h3.symm
                    subst h3
                    rw [h1] at hA
                    injection hA with hA; injection hA with hA
                    subst hA
                    subst h1
                    have hPm : (toI out).length = m := h2.symm
                    clear h2
                    have hkm : kk ≤ m := by omega
                    have hF2 := Keep.mk (hF.out.put hk1 hmin.out (i := kk) (by omega) hpre.out hstop.out (by omega))
                    rw [hPm] at hcap
                    have hz6 := Keep.mk hcells
                    clear hF hrow hcells
                    go_wp2_with (first
                      | (go_at_call 56; (with_reducible refine (q56 _).mono ?_); rintro e w7 ⟨rfl, hb7⟩
                         have hI7 : Keep (NumsAt w7 G N 3 (nearOf E) ∧ Below w.heap.size w w7) := ⟨hI6.out.1.below hb7 hI6.out.1.lt, hI6.out.2.trans (hb7.mono hI6.out.2.size)⟩
                         have hcells7 : ∀ i, i < (toI out).length → w7.cell? ⟨g, 0 + i, none⟩ = some (vz ((toI out).getD i 0)) := fun i hi => cell_below (hz6.out i hi) hb7
                         have hg7 : g < w7.heap.size := Nat.lt_of_lt_of_le hg hb7.size
                         have hc7 := Keep.mk hcells7
                         have t1 : Keep True := ⟨trivial⟩
                         clear hb7 q56 hcells7 hz6)
                      | (at_builtin; go_loud (
                         clear t1
                         refine wpList_append_own _ rfl _ _ 23 rfl w7.heap.size 3 i0 (.int .i64 0) 1 8 ty24 hi0 hz0 hz1 hz2 rfl (by decide) _ 0 [] rfl (World.ownsRow_nil _ _ _ _) ⟨g, 0, none⟩ kk cap (((toI out).take kk).map vz) rfl (by simp; omega) (cells_take (m := kk) (zs := (toI out)) (by omega) hc7.out) (one_cells _) (by unfold maxLen; omega) (by omega) (Nat.le_refl _) ?_
                         intro v1 w1 hown1 hgrow1 hnil1
                         have hb1 : Below w7.heap.size w7 w1 := Below.grown (Below.refl _ _) hgrow1 (Nat.le_refl _) (fun j hj => by cases hj)
                         have hs1 := hb1.size
                         have t2 : Keep True := ⟨trivial⟩
                         clear hgrow1 hnil1))
                      | (at_builtin; go_loud (
                         clear t2
                         refine wpList_append_own _ rfl _ _ 23 rfl w7.heap.size 3 i0 (.int .i64 0) 1 8 ty24 hi0 hz0 hz1 hz2 rfl (by decide) _ _ _ rfl (hown1.alloc _) ⟨w1.heap.size, 0, none⟩ 1 1 [.int .i64 k] rfl rfl (cell_one_new _ _ _) (fun x hx => by simp at hx; subst hx; rfl) (by unfold maxLen; omega) (by omega) (by simp; try omega) ?_
                         intro v2 w2 hown2 hgrow2 hnil2
                         have hb2 : Below w7.heap.size w7 w2 := Below.grown (hb1.alloc hs1 _) hgrow2 (by simp; omega) (fun j hj => by have := (hown1.lt _ hj).1; omega)
                         have hs2 := hb2.size
                         have t3 : Keep True := ⟨trivial⟩
                         clear hgrow2 hnil2 hown1 hb1))
                      | (at_builtin; go_loud (
                         clear t3
                         obtain ⟨ad, had, hcl⟩ := src_of (r := kk) (w := w2) (cap := cap) (fun i hi => (hb2.cell (p := ⟨g, 0 + i, none⟩) hg7).trans (hc7.out i hi)) (by rw [hPm]; exact hcap)
                         refine wpList_append_own _ rfl _ _ 23 rfl w7.heap.size 3 i0 (.int .i64 0) 1 8 ty24 hi0 hz0 hz1 hz2 rfl (by decide) _ _ _ rfl hown2 ad (m - kk) (cap - kk) (((toI out).drop kk).map vz) (by first | exact congrArg (fun x => Value.slice x (m - kk) (cap - kk)) had | (split at had <;> first | exact congrArg (fun x => Value.slice x (m - kk) (cap - kk)) had | (exfalso; omega) | (injection had with had; subst had; simp only [Nat.sub_self]; rfl) | (injection had with had; subst had; simp; done))) (by simp; omega) hcl (one_cells _) (by unfold maxLen; omega) (by omega) (by omega) ?_
                         intro v3 w3 hown3 hgrow3 hnil3
                         have hb3 : Below w7.heap.size w7 w3 := Below.grown hb2 hgrow3 (by omega) (fun j hj => by have := (hown2.lt _ hj).1; omega)
                         have hr3 := Keep.mk (insL_row hPm hkm hown3)
                         clear hgrow3 hnil3 hown2 hown3 hb2 had hcl)))
                    have hl3 := ins_len out kk k (by omega)
                    have hr4 := hr3.out
                    rw [toI_ins] at hr4
                    obtain ⟨g4, cap4, hv4, h4⟩ := id hr4
                    rw [toI_len, hl3, hlen] at hv4
                    have hz3 : Keep (NumsAt w3 G N 3 (nearOf E) ∧ Below w.heap.size w w3) := ⟨hI7.out.1.below hb3 hI7.out.1.lt, hI7.out.2.trans (hb3.mono hI7.out.2.size)⟩
                    subst hv4
                    exact ⟨⟨k + 1, out.take kk ++ k :: out.drop kk, _, m + 1, cap4, by omega, by omega, by go_num, by omega, rfl, hF2, ⟨⟨by rw [hl3, hlen], .inr ⟨by omega, hr4⟩⟩⟩, hz3⟩, by simp [intOf]; omega⟩
              · obtain rfl : j = m := by omega
                have hjm' : ¬ (j : Int) < (j : Int) := by omega
                have hlen := hR6.out.1
                have hstop : Keep (∀ y, out[j]? = some y → ¬ BefN y k) := ⟨fun y hy hc => by
                  have := (getD_some hy).1; omega⟩
                obtain ⟨hPm0, hRr⟩ := hR6.out
                rcases hRr with ⟨hm0, hA0, hc0⟩ | ⟨hm1, hrow⟩
                · subst hm0 hA0 hc0
                  obtain rfl : out = [] := List.length_eq_zero_iff.1 hPm0
                  try (obtain rfl : j = 0 := by omega)
                  have hF2 := Keep.mk (hF.out.put hk1 hmin.out (i := 0) (by simp) (fun j hj => by omega) (fun m hm => by simp at hm) (by omega))
                  have hbz6 := Keep.mk hI6.out.2.size
                  have hwz := hbz6.out
                  clear hF hrow1
                  go_wp2_with (first
                    | (at_builtin; refine wpList_append_nil _ rfl _ _ 23 rfl 3 i0 ty24 hi0 rfl rfl ?_)
                    | (at_builtin; go_loud (
                       refine wpList_append_own _ rfl _ _ 23 rfl w.heap.size 3 i0 (.int .i64 0) 1 8 ty24 hi0 hz0 hz1 hz2 rfl (by decide) _ 0 [] rfl (World.ownsRow_nil _ _ _ _) ⟨wr.heap.size, 0, none⟩ 1 1 [.int .i64 k] rfl rfl (cell_one_new _ _ _) (fun x hx => by simp at hx; subst hx; rfl) (by unfold maxLen; omega) (by omega) (by simp; try omega) ?_
                       intro v2 w3 hown' hgrow3 hnil3
                       have hbw3 : Below w.heap.size w w3 := Below.grown (hI6.out.2.alloc hwz _) hgrow3 (by simp; omega) (fun j hj => by cases hj)
                       have hg3 : NumsAt w3 G N 3 (nearOf E) := hI6.out.1.below (Below.grown ((Below.refl wr.heap.size wr).alloc (Nat.le_refl _) _) hgrow3 (by simp) (fun j hj => by cases hj)) hI6.out.1.lt
                       have hr3 : RowAt w3 v2 [(k : Int)] := row_own hown' (by simp)
                       obtain ⟨g2, cap2, rfl, hc2, _⟩ := id hr3
                       have hr3k := Keep.mk hr3
                       have hz3 := Keep.mk (And.intro hg3 hbw3)
                       clear hown' hgrow3 hnil3 hr3 hbw3 hg3))
                    | (at_builtin; go_loud (refine wpList_append_zero _ rfl _ _ 23 rfl 3 i0 ty24 hi0 ⟨g2, 0, none⟩ _ cap2 0 rfl rfl hc2 ?_)))
                  exact ⟨⟨k + 1, [k], _, 1, cap2, by omega, by omega, by go_num, by simp; omega, rfl, hF2, ⟨rfl, .inr ⟨by omega, hr3k.out⟩⟩, hz3⟩, by simp [intOf]; omega⟩
                · obtain ⟨g, cap, hv, hcap, hmax, hg, hcells⟩ := id hrow
                  injection hv with h1 h2 h3
                  have h3 := h3.symm
                  subst h1 h3
                  have hPm : (toI out).length = j := h2.symm
                  clear h2
                  have hkm : j ≤ j := by omega
                  have hF2 := Keep.mk (hF.out.put hk1 hmin.out (i := j) (by omega) hpre.out hstop.out (by omega))
                  rw [hPm] at hcap
                  have t1 : Keep True := ⟨trivial⟩
                  clear hF hrow
                  go_wp2_with (first
                    | (at_builtin; go_loud (
                       clear t1
                       refine wpList_append_own _ rfl _ _ 23 rfl wr.heap.size 3 i0 (.int .i64 0) 1 8 ty24 hi0 hz0 hz1 hz2 rfl (by decide) _ 0 [] rfl (World.ownsRow_nil _ _ _ _) ⟨g, 0, none⟩ j cap (((toI out).take j).map vz) rfl (by simp; omega) (cells_take (m := j) (zs := (toI out)) (by omega) hcells) (one_cells _) (by unfold maxLen; omega) (by omega) (Nat.le_refl _) ?_
                       intro v1 w1 hown1 hgrow1 hnil1
                       have hb1 : Below wr.heap.size wr w1 := Below.grown (Below.refl _ _) hgrow1 (Nat.le_refl _) (fun j hj => by cases hj)
                       have hs1 := hb1.size
                       have t2 : Keep True := ⟨trivial⟩
                       clear hgrow1 hnil1))
                    | (at_builtin; go_loud (
                       clear t2
                       refine wpList_append_own _ rfl _ _ 23 rfl wr.heap.size 3 i0 (.int .i64 0) 1 8 ty24 hi0 hz0 hz1 hz2 rfl (by decide) _ _ _ rfl (hown1.alloc _) ⟨w1.heap.size, 0, none⟩ 1 1 [.int .i64 k] rfl rfl (cell_one_new _ _ _) (fun x hx => by simp at hx; subst hx; rfl) (by unfold maxLen; omega) (by omega) (by simp; try omega) ?_
                       intro v2 w2 hown2 hgrow2 hnil2
                       have hb2 : Below wr.heap.size wr w2 := Below.grown (hb1.alloc hs1 _) hgrow2 (by simp; omega) (fun j hj => by have := (hown1.lt _ hj).1; omega)
                       have hs2 := hb2.size
                       have t3 : Keep True := ⟨trivial⟩
                       clear hgrow2 hnil2 hown1 hb1))
                    | (at_builtin; go_loud (
                       clear t3
                       obtain ⟨ad, had, hcl⟩ := src_of (r := j) (w := w2) (cap := cap) (fun i hi => (hb2.cell (p := ⟨g, 0 + i, none⟩) hg).trans (hcells i hi)) (by rw [hPm]; exact hcap)
                       refine wpList_append_own _ rfl _ _ 23 rfl wr.heap.size 3 i0 (.int .i64 0) 1 8 ty24 hi0 hz0 hz1 hz2 rfl (by decide) _ _ _ rfl hown2 ad 0 (cap - j) (((toI out).drop j).map vz) (by first | exact congrArg (fun x => Value.slice x 0 (cap - j)) had | (split at had <;> first | exact congrArg (fun x => Value.slice x 0 (cap - j)) had | (exfalso; omega) | (injection had with had; subst had; simp only [Nat.sub_self]; rfl) | (injection had with had; subst had; simp; done))) (by simp; omega) hcl (one_cells _) (by unfold maxLen; omega) (by omega) (by omega) ?_
                       intro v3 w3 hown3 hgrow3 hnil3
                       have hb3 : Below wr.heap.size wr w3 := Below.grown hb2 hgrow3 (by omega) (fun j hj => by have := (hown2.lt _ hj).1; omega)
                       have hr3 := Keep.mk (insL_row hPm hkm (by rw [Nat.sub_self]; exact hown3))
                       clear hgrow3 hnil3 hown2 hown3 hb2 had hcl)))
                  have hl3 := ins_len out j k (by omega)
                  have hr4 := hr3.out
                  rw [toI_ins] at hr4
                  obtain ⟨g4, cap4, hv4, h4⟩ := id hr4
                  rw [toI_len, hl3, hPm0] at hv4
                  have hz3 : Keep (NumsAt w3 G N 3 (nearOf E) ∧ Below w.heap.size w w3) := ⟨hI6.out.1.below hb3 hI6.out.1.lt, hI6.out.2.trans (hb3.mono hI6.out.2.size)⟩
                  subst hv4
                  exact ⟨⟨k + 1, out.take j ++ k :: out.drop j, _, j + 1, cap4, by omega, by omega, by go_num, by omega, rfl, hF2, ⟨by rw [hl3, hPm0], .inr ⟨by omega, hr4⟩⟩, hz3⟩, by simp [intOf]; omega⟩
    · obtain rfl : k = P := by omega
      have hlt' : ¬ (k : Int) < (k : Int) := by omega
      have hfin := hdn.out out hF.out
      go_wp2
      refine bodyPost_ret (v := .slice A m c) (by simp [results, Try.results37, go_sem]) rfl ?_
      exact ⟨A, m, c, rfl, by rw [← hfin]; exact hR.out, hI.out.2⟩
end Go.Proofs.Yteekigpdiklppaa

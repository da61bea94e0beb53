/-
  The law's order: a list of 0, 1, .. in an order that some ints tell.
-/
import Derived.Test.YtifbiamfandjnaaTame
import Derived.ArgAppend
set_option linter.unusedSimpArgs false
set_option linter.unusedVariables false
namespace Go.Proofs.Ytifbiamfandjnaa
open Go Go.Proofs Go.RowKit
theorem ArgInts.off {w : World} {v : Value} {zs : List Int} (h : ArgInts w v zs) : IntsO w v zs := by
  rcases h with ⟨rfl, rfl⟩ | ⟨a, cap, rfl, rfl⟩ | ⟨b, o, cap, rfl, _, _, _, hc⟩
  · exact ⟨none, 0, rfl, fun k hk => by simp at hk⟩
  · exact ⟨some a, cap, rfl, fun k hk => by simp at hk⟩
  · exact ⟨_, cap, rfl, fun k hk => ⟨b, o, rfl, hc k hk⟩⟩
namespace Ord
theorem wpList_append_zero {P : Program} (w : World) {ops : Array Oper} {rest : List Oper} {o : Oper} {a : Act} {Q : Exit → Act → World → Prop}
    (hg : o.guard = none) (s x : Operand) (t : TypeId) (hop : o.op = Op.call { callee := Callee.builtin Builtin.append, args := #[s, x], argTypes := #[t, t] })
    (e : TypeId) (i : TypeInfo) (h1 : P.underlying t = some (.slice e)) (h2 : P.info? e = some i) (b : Addr) (n cap c : Nat) (hs : a.eval s = .slice (some b) n cap) (hx : a.eval x = .slice none 0 c) (hcap : n ≤ cap)
    (hK : wpList P ops Q rest (a.put o.dst (.slice (some b) n cap)) w) : wpList P ops Q (o :: rest) a w := by
  refine wpList_plain hg fun K hK' => ?_
  have hrun : (Builtin.append_ #[t, t] o.type #[.slice (some b) n cap, .slice none 0 c]).run P w = .ok (.slice (some b) n cap) w := by
    simp [Builtin.append_, run_underlying h1, sizeOf, typeInfo, zeroValue, h2, Builtin.lenOf, hcap, run_firstCells_none, storeCells]
  unfold Oper.wp
  simp [execOp, hop, resolve, invoke, builtin, hs, hx, hrun, Result.andThen]
  exact hK' _ _ hK
/-- A list of ints at the start of a block that it may be cut from. -/
def RowAt (W : World) (v : Value) (P : List Int) : Prop :=
  ∃ g cap, v = .slice (some ⟨g, 0, none⟩) P.length cap ∧ P.length ≤ cap ∧ cap ≤ maxLen ∧ g < W.heap.size ∧ ∀ i, i < P.length → W.cell? ⟨g, 0 + i, none⟩ = some (vz (P.getD i 0))
theorem row_own {w : World} {B : Nat} {v : Value} {l : List Int} (h : w.ownsRow B 3 1 v l.length (l.map vz)) (hl : 1 ≤ l.length) : RowAt w v l := by
  obtain ⟨h1, h2⟩ := h
  rcases h2 with ⟨rfl, h0⟩ | ⟨g, cap, cur, rfl, hg, hh, hn, hcap, hsz, htake⟩
  · omega
  · refine ⟨g, cap, rfl, hn, hcap, ?_, fun k hk => ?_⟩
    · rcases Nat.lt_or_ge g w.heap.size with h' | h'
      · exact h'
      · rw [Array.getElem?_eq_none h'] at hh; cases hh
    have : cur[k]? = some (.int .i64 (l.getD k 0)) := by
      have e : (cur.toList.take (l.length * 1))[k]? = (l.map vz)[k]? := by rw [htake]
      rw [List.getElem?_take_of_lt (by omega), List.getElem?_map, List.getElem?_eq_getElem hk] at e
      rw [← Array.getElem?_toList, e]
      simp [vz, List.getD, hk]
    simp [World.cell?, hh, this, vz]
theorem row_below {w w' : World} {v : Value} {l : List Int} (h : RowAt w v l) (b : Below w.heap.size w w') : RowAt w' v l := by
  obtain ⟨g, cap, hv, h1, h2, h3, hc⟩ := h
  exact ⟨g, cap, hv, h1, h2, Nat.lt_of_lt_of_le h3 b.size, fun i hi => cell_below (hc i hi) b⟩
theorem row_ints {w : World} {v : Value} {l : List Int} (h : RowAt w v l) : IntsAt w v l := by
  obtain ⟨g, cap, hv, h1, h2, h3, hc⟩ := h
  exact ⟨_, cap, hv, fun k hk => ⟨g, rfl, by have := hc k hk; rw [Nat.zero_add] at this; exact this⟩⟩
theorem cells_of_drop {w : World} {b m : Nat} {zs : List Int} (hc : ∀ i, i < zs.length → w.cell? ⟨b, 0 + i, none⟩ = some (vz (zs.getD i 0))) :
    ∀ j u, ((zs.drop m).map vz)[j]? = some u → w.cell? ((⟨b, m, none⟩ : Addr).add j) = some u := by
  intro j u hj
  have hjl : j < (zs.drop m).length := by
    have := (List.getElem?_eq_some_iff.1 hj).1
    simpa using this
  have hplain : (⟨b, m, none⟩ : Addr).add j = ⟨b, 0 + (m + j), none⟩ := by unfold Addr.add; split <;> simp_all
  rw [List.length_drop] at hjl
  rw [hplain, hc (m + j) (by omega), ← hj, List.getElem?_map, List.getElem?_drop, List.getElem?_eq_getElem (show m + j < zs.length by omega), List.getD_eq_getElem?_getD, List.getElem?_eq_getElem (show m + j < zs.length by omega)]
  rfl
/-- The rest of a list, cut from its row: where it starts. -/
theorem src_of {w : World} {g r cap : Nat} {P : List Int} (hc : ∀ i, i < P.length → w.cell? ⟨g, 0 + i, none⟩ = some (vz (P.getD i 0))) (hcap : P.length ≤ cap) :
    ∃ ad : Addr, (if cap = r then some (⟨g, 0, none⟩ : Addr) else some ⟨g, r, none⟩) = some ad ∧ ∀ j u, ((P.drop r).map vz)[j]? = some u → w.cell? (ad.add j) = some u := by
  by_cases h : cap = r
  · refine ⟨⟨g, 0, none⟩, by rw [if_pos h], fun j u hj => ?_⟩
    have := (List.getElem?_eq_some_iff.1 hj).1
    rw [List.length_map, List.length_drop] at this
    omega
  · exact ⟨⟨g, r, none⟩, by rw [if_neg h], cells_of_drop hc⟩
theorem one_cells (l : List Int) : ∀ u ∈ l.map vz, u.oneCell' = true := by
  intro u hu
  obtain ⟨z, _, rfl⟩ := List.mem_map.1 hu
  rfl
def ordL (P : List Int) (r k : Nat) : List Int := P.take r ++ [(k : Int)] ++ P.drop r
theorem ordL_len {P : List Int} {r k : Nat} (h : P.length = k) (hr : r ≤ k) : (ordL P r k).length = k + 1 := by
  unfold ordL; simp; omega
def upTo (n : Nat) : List Int := (List.range n).map fun i : Nat => (i : Int)
theorem ordL_perm {P : List Int} {r k : Nat} (h : P.Perm (upTo k)) : (ordL P r k).Perm (upTo (k + 1)) := by
  unfold ordL upTo
  rw [List.range_succ, List.map_append]
  have h1 : (P.take r ++ [(k : Int)] ++ P.drop r).Perm ([(k : Int)] ++ P) := by
    rw [List.append_assoc]
    refine (List.perm_middle (l₁ := P.take r) (a := (k : Int)) (l₂ := P.drop r)).trans ?_
    rw [List.take_append_drop]; exact List.Perm.refl _
  exact h1.trans ((List.perm_append_comm).trans (List.Perm.append_right _ h))
theorem ordL_row {w : World} {B : Nat} {v : Value} {P : List Int} {r k : Nat} (hP : P.length = k) (hr : r ≤ k) (h : w.ownsRow B 3 1 v (0 + r + 1 + (k - r)) ([] ++ (P.take r).map vz ++ [.int .i64 k] ++ (P.drop r).map vz)) : RowAt w v (ordL P r k) := by
  refine row_own (B := B) ?_ (by rw [ordL_len hP hr]; omega)
  rw [ordL_len hP hr, show k + 1 = 0 + r + 1 + (k - r) by omega]
  unfold ordL
  rw [List.map_append, List.map_append]
  exact h
set_option maxHeartbeats 4000000 in
set_option maxRecDepth 100000 in
theorem order_any {n : Nat} {v : Value} {zs : List Int} {w : World} (hn1 : 1 ≤ n) (hn2 : n ≤ 60) (hv : ArgInts w v zs) :
    Calls Try.prog 51 #[v, .int .i64 n] w fun e w' => ∃ v' P, e = .returned v' ∧ RowAt w' v' P ∧ P.length = n ∧ P.Perm (upTo n) ∧ Below w.heap.size w w' := by
  obtain ⟨i0, hi, hz0, hz1, hz2⟩ := info_parts info3
  have hoff := hv.off
  clear hv
  obtain ⟨A, capz, rfl, hc⟩ := id hoff
  obtain ⟨m, hm⟩ : ∃ m, Keep (zs.length = m) := ⟨_, ⟨rfl⟩⟩
  rw [hm.out] at hc ⊢
  have hck : Keep (∀ k, k < m → ∃ (g o : Nat) (z : Int), A = some ⟨g, o, none⟩ ∧ g < w.heap.size ∧ w.cell? ⟨g, o + k, none⟩ = some (.int .i64 z)) := ⟨fun k hk => by
    obtain ⟨g, o, hA, h⟩ := hc k hk
    refine ⟨g, o, _, hA, ?_, h⟩
    rcases Nat.lt_or_ge g w.heap.size with h' | h'
    · exact h'
    · simp [World.cell?, Array.getElem?_eq_none h'] at h⟩
  clear hc hoff
  go_enter Try.func51, Try.ntmps51
  go_wp2
  go_loopw [5, 6] (fun r i wr => ∃ (k : Nat) (P : List Int), k ≤ n ∧ i = .int .i64 k ∧ P.length = k ∧ Keep (P.Perm (upTo k)) ∧ ((k = 0 ∧ r = .slice none 0 0) ∨ (1 ≤ k ∧ RowAt wr r P)) ∧ Below w.heap.size w wr) (fun _ i _ => n - (intOf i).toNat)
  case atStart => exact ⟨0, [], by omega, rfl, rfl, ⟨List.Perm.refl _⟩, .inl ⟨rfl, rfl⟩, Below.refl _ _⟩
  case round =>
    obtain ⟨k, P, hkn, rfl, hP, hperm, hor, hbw⟩ := hrel
    have hbz := hbw.size
    by_cases hlt : k < n
    · rcases hor with ⟨rfl, rfl⟩ | ⟨hk1, hrow⟩
      · obtain rfl : P = [] := List.length_eq_zero_iff.1 hP
        have ek : IntKind.i64.wrap (((0 : Nat) : Int) + 1) = 1 := by decide
        by_cases hlen : 0 < m
        · obtain ⟨g, o, z, rfl, hg, hcell⟩ := hck.out 0 hlen
          rw [Nat.add_zero] at hcell
          have hcell' := (hbw.cell (p := ⟨g, o, none⟩) hg).trans hcell
          have q49 := mod_any z (m := 1) (by omega) (by omega)
          clear hcell
          go_wp2_with (first
            | (go_at_call 49; refine (q49 _).mono ?_; rintro e w6 ⟨⟨s, hs, rfl⟩, rfl⟩; obtain rfl : s = 0 := by omega)
            | (at_builtin; go_loud (
               refine wpList_append_own _ rfl _ _ 22 rfl w.heap.size 3 i0 (.int .i64 0) 1 8 ty22 hi hz0 hz1 hz2 rfl (by decide) _ 0 [] rfl (World.ownsRow_nil _ _ _ _) ⟨w6.heap.size, 0, none⟩ 1 1 [.int .i64 0] rfl rfl (cell_one_new _ _ _) (fun x hx => by simp at hx; subst hx; rfl) (by unfold maxLen; omega) (by omega) (by simp; try omega) ?_
               intro v2 w3 hown' hgrow3 hnil3
               have hbw3 : Below w.heap.size w w3 := Below.grown (hbw.alloc hbz _) hgrow3 (by simp; omega) (fun j hj => by cases hj)
               have hr3 : RowAt w3 v2 [0] := row_own hown' (by simp)
               obtain ⟨g2, cap2, rfl, hc2, _⟩ := id hr3
               have hr3k := Keep.mk hr3
               clear hown' hgrow3 hnil3 hr3))
            | (at_builtin; go_loud (refine wpList_append_zero _ rfl _ _ 22 rfl 3 i0 ty22 hi ⟨g2, 0, none⟩ _ cap2 0 rfl rfl hc2 ?_)))
          exact ⟨⟨1, [0], by omega, by go_num, rfl, ⟨ordL_perm (P := []) (r := 0) (k := 0) (List.Perm.refl _)⟩, .inr ⟨by omega, hr3k.out⟩, hbw3⟩, by simp [intOf]; omega⟩
        · have hm0 : m = 0 := by omega
          subst hm0
          go_wp2_with (first
            | (at_builtin; go_loud (
               refine wpList_append_own _ rfl _ _ 22 rfl w.heap.size 3 i0 (.int .i64 0) 1 8 ty22 hi hz0 hz1 hz2 rfl (by decide) _ 0 [] rfl (World.ownsRow_nil _ _ _ _) ⟨wr.heap.size, 0, none⟩ 1 1 [.int .i64 0] rfl rfl (cell_one_new _ _ _) (fun x hx => by simp at hx; subst hx; rfl) (by unfold maxLen; omega) (by omega) (by simp; try omega) ?_
               intro v2 w3 hown' hgrow3 hnil3
               have hbw3 : Below w.heap.size w w3 := Below.grown (hbw.alloc hbz _) hgrow3 (by simp; omega) (fun j hj => by cases hj)
               have hr3 : RowAt w3 v2 [0] := row_own hown' (by simp)
               obtain ⟨g2, cap2, rfl, hc2, _⟩ := id hr3
               have hr3k := Keep.mk hr3
               clear hown' hgrow3 hnil3 hr3))
            | (at_builtin; go_loud (refine wpList_append_zero _ rfl _ _ 22 rfl 3 i0 ty22 hi ⟨g2, 0, none⟩ _ cap2 0 rfl rfl hc2 ?_)))
          exact ⟨⟨1, [0], by omega, by go_num, rfl, ⟨ordL_perm (P := []) (r := 0) (k := 0) (List.Perm.refl _)⟩, .inr ⟨by omega, hr3k.out⟩, hbw3⟩, by simp [intOf]; omega⟩
      · obtain ⟨g, cap, rfl, hcap, hmax, hg, hcells⟩ := id hrow
        rw [hP] at hcap
        have hcells' := hcells
        rw [hP] at hcells'
        have t1 : Keep True := ⟨trivial⟩
        clear hrow
        by_cases hlen : k < m
        · obtain ⟨gz, oz, z, rfl, hgz, hcell⟩ := hck.out k hlen
          have hcell' := (hbw.cell (p := ⟨gz, oz + k, none⟩) hgz).trans hcell
          have q49 := mod_any z (m := k + 1) (by omega) (by omega)
          have ek : IntKind.i64.wrap ((k : Int) + 1) = ((k + 1 : Nat) : Int) := by rw [show (k : Int) + 1 = ((k + 1 : Nat) : Int) by omega]; exact IntWalk.i64_in _ (by omega)
          clear hcell
          rw [hP]
          go_wp2_with (first
            | (go_at_call 49; refine (q49 _).mono ?_; rintro e w6 ⟨⟨r, hr, rfl⟩, rfl⟩
               have hrk : r ≤ k := by omega
               clear q49 ek hcell')
            | (at_builtin; go_loud (
               clear t1
               refine wpList_append_own _ rfl _ _ 22 rfl w6.heap.size 3 i0 (.int .i64 0) 1 8 ty22 hi hz0 hz1 hz2 rfl (by decide) _ 0 [] rfl (World.ownsRow_nil _ _ _ _) ⟨g, 0, none⟩ r cap ((P.take r).map vz) rfl (by simp; omega) (cells_of_arg (o := 0) (m := r) (zs := P) (by omega) hcells) (one_cells _) (by unfold maxLen; omega) (by omega) (Nat.le_refl _) ?_
               intro v1 w1 hown1 hgrow1 hnil1
               have hb1 : Below w6.heap.size w6 w1 := Below.grown (Below.refl _ _) hgrow1 (Nat.le_refl _) (fun j hj => by cases hj)
               have hs1 := hb1.size
               have t2 : Keep True := ⟨trivial⟩
               clear hgrow1 hnil1))
            | (at_builtin; go_loud (
               clear t2
               refine wpList_append_own _ rfl _ _ 22 rfl w6.heap.size 3 i0 (.int .i64 0) 1 8 ty22 hi hz0 hz1 hz2 rfl (by decide) _ _ _ rfl (hown1.alloc _) ⟨w1.heap.size, 0, none⟩ 1 1 [.int .i64 k] rfl rfl (cell_one_new _ _ _) (fun x hx => by simp at hx; subst hx; rfl) (by unfold maxLen; omega) (by omega) (by simp; try omega) ?_
               intro v2 w2 hown2 hgrow2 hnil2
               have hb2 : Below w6.heap.size w6 w2 := Below.grown (hb1.alloc hs1 _) hgrow2 (by simp; omega) (fun j hj => by have := (hown1.lt _ hj).1; omega)
               have hs2 := hb2.size
               have t3 : Keep True := ⟨trivial⟩
               clear hgrow2 hnil2 hown1 hb1))
            | (at_builtin; go_loud (
               clear t3
               obtain ⟨ad, had, hcl⟩ := src_of (r := r) (w := w2) (cap := cap) (fun i hi => (hb2.cell (p := ⟨g, 0 + i, none⟩) hg).trans (hcells i hi)) (by rw [hP]; exact hcap)
               refine wpList_append_own _ rfl _ _ 22 rfl w6.heap.size 3 i0 (.int .i64 0) 1 8 ty22 hi hz0 hz1 hz2 rfl (by decide) _ _ _ rfl hown2 ad (k - r) (cap - r) ((P.drop r).map vz) (congrArg (fun x => Value.slice x (k - r) (cap - r)) had) (by simp; omega) hcl (one_cells _) (by unfold maxLen; omega) (by omega) (by omega) ?_
               intro v3 w3 hown3 hgrow3 hnil3
               have hb3 : Below w6.heap.size w6 w3 := Below.grown hb2 hgrow3 (by omega) (fun j hj => by have := (hown2.lt _ hj).1; omega)
               have hr3 := Keep.mk (ordL_row hP hrk hown3)
               clear hgrow3 hnil3 hown2 hown3 hb2 had hcl)))
          exact ⟨⟨k + 1, ordL P r k, by omega, by go_num, ordL_len hP hrk, ⟨ordL_perm hperm.out⟩, .inr ⟨by omega, hr3.out⟩, hbw.trans (hb3.mono hbz)⟩, by simp [intOf]; omega⟩
        · have hrk : k ≤ k := Nat.le_refl _
          rw [hP]
          go_wp2_with (first
            | (at_builtin; go_loud (
               clear t1
               refine wpList_append_own _ rfl _ _ 22 rfl wr.heap.size 3 i0 (.int .i64 0) 1 8 ty22 hi hz0 hz1 hz2 rfl (by decide) _ 0 [] rfl (World.ownsRow_nil _ _ _ _) ⟨g, 0, none⟩ k cap ((P.take k).map vz) rfl (by simp; omega) (cells_of_arg (o := 0) (m := k) (zs := P) (by omega) hcells) (one_cells _) (by unfold maxLen; omega) (by omega) (Nat.le_refl _) ?_
               intro v1 w1 hown1 hgrow1 hnil1
               have hb1 : Below wr.heap.size wr w1 := Below.grown (Below.refl _ _) hgrow1 (Nat.le_refl _) (fun j hj => by cases hj)
               have hs1 := hb1.size
               have t2 : Keep True := ⟨trivial⟩
               clear hgrow1 hnil1))
            | (at_builtin; go_loud (
               clear t2
               refine wpList_append_own _ rfl _ _ 22 rfl wr.heap.size 3 i0 (.int .i64 0) 1 8 ty22 hi hz0 hz1 hz2 rfl (by decide) _ _ _ rfl (hown1.alloc _) ⟨w1.heap.size, 0, none⟩ 1 1 [.int .i64 k] rfl rfl (cell_one_new _ _ _) (fun x hx => by simp at hx; subst hx; rfl) (by unfold maxLen; omega) (by omega) (by simp; try omega) ?_
               intro v2 w2 hown2 hgrow2 hnil2
               have hb2 : Below wr.heap.size wr w2 := Below.grown (hb1.alloc hs1 _) hgrow2 (by simp; omega) (fun j hj => by have := (hown1.lt _ hj).1; omega)
               have hs2 := hb2.size
               have t3 : Keep True := ⟨trivial⟩
               clear hgrow2 hnil2 hown1 hb1))
            | (at_builtin; go_loud (
               clear t3
               obtain ⟨ad, had, hcl⟩ := src_of (r := k) (w := w2) (cap := cap) (fun i hi => (hb2.cell (p := ⟨g, 0 + i, none⟩) hg).trans (hcells i hi)) (by rw [hP]; exact hcap)
               refine wpList_append_own _ rfl _ _ 22 rfl wr.heap.size 3 i0 (.int .i64 0) 1 8 ty22 hi hz0 hz1 hz2 rfl (by decide) _ _ _ rfl hown2 ad 0 (cap - k) ((P.drop k).map vz) (congrArg (fun x => Value.slice x 0 (cap - k)) had) (by simp [hP]) hcl (one_cells _) (by unfold maxLen; omega) (by omega) (by omega) ?_
               intro v3 w3 hown3 hgrow3 hnil3
               have hb3 : Below wr.heap.size wr w3 := Below.grown hb2 hgrow3 (by omega) (fun j hj => by have := (hown2.lt _ hj).1; omega)
               have hr3 := Keep.mk (ordL_row hP hrk (by rw [Nat.sub_self]; exact hown3))
               clear hgrow3 hnil3 hown2 hown3 hb2 had hcl)))
          exact ⟨⟨k + 1, ordL P k k, by omega, by go_num, ordL_len hP hrk, ⟨ordL_perm hperm.out⟩, .inr ⟨by omega, hr3.out⟩, hbw.trans (hb3.mono hbz)⟩, by simp [intOf]; omega⟩
    · have hkn' : k = n := by omega
      subst hkn'
      have hrow := (hor.resolve_left (fun h => by omega)).2
      clear hor
      go_wp2
      go_ret
      exact ⟨_, P, rfl, hrow, hP, hperm.out, hbw⟩
end Ord
end Go.Proofs.Ytifbiamfandjnaa

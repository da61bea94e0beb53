/- Lists of ints and of fractions: as arguments, and copied. -/
import Derived.Test.YtbocmbhinjkjlaaHeirsNo
import Derived.Test.YtbocmbhinjkjlaaRows
import Derived.ChangeSlices
import Derived.DataReads
import Derived.WideShapes
import Derived.ProofKit
import Derived.OpenShut
import Derived.OwnWalk
import Derived.DataShut
import Derived.Lib.SmallJoins
import Derived.Laws.AppendOwn
set_option linter.unusedSimpArgs false
set_option linter.unusedVariables false
namespace Go.Proofs.Ytbocmbhinjkjlaa
open Go Go.Proofs Go.RowKit Go.ChangeShapes Go.WideShapes Go.ChangeAt Go.Joins
abbrev vz (z : Int) : Value := .int .i64 z
abbrev Pts := List (Int × Int)
def enc2 (ps : Pts) : List Value := ps.flatMap fun p => [vz p.1, vz p.2]
theorem enc2_push (ps : Pts) (x y : Int) : enc2 (ps ++ [(x, y)]) = enc2 ps ++ [.int .i64 x, .int .i64 y] := by simp [enc2, vz]
theorem enc2_app (ps qs : Pts) : enc2 (ps ++ qs) = enc2 ps ++ enc2 qs := by simp [enc2]
theorem enc2_len (ps : Pts) : (enc2 ps).length = ps.length * 2 := by
  unfold enc2
  induction ps with
  | nil => rfl
  | cons p l ih => simp only [List.flatMap_cons, List.length_append, List.length_cons, List.length_nil, ih]; omega
theorem enc2_at : ∀ (ps : Pts) {k : Nat}, k < ps.length → (enc2 ps)[k * 2]? = some (vz (ps.getD k (0, 0)).1) ∧ (enc2 ps)[k * 2 + 1]? = some (vz (ps.getD k (0, 0)).2)
  | [], k, h => by simp at h
  | p :: l, 0, h => by simp [enc2]
  | p :: l, k + 1, h => by
    have := enc2_at l (k := k) (by simpa using h)
    rw [show (k + 1) * 2 = k * 2 + 1 + 1 by omega]
    simpa [enc2] using this
theorem enc2_one (ps : Pts) : ∀ u ∈ enc2 ps, u.oneCell' = true := by
  intro u hu
  unfold enc2 at hu
  rw [List.mem_flatMap] at hu
  obtain ⟨p, _, hp⟩ := hu
  simp only [List.mem_cons, List.not_mem_nil, or_false] at hp
  rcases hp with rfl | rfl <;> rfl
/-- A list of fractions in memory. -/
def FracsO (w : World) (v : Value) (l : Pts) : Prop :=
  ∃ A cap, v = .slice A l.length cap ∧ ∀ k, k < l.length → ∃ g o, A = some ⟨g, o, none⟩ ∧ w.cell? ⟨g, o + k * 2, none⟩ = some (.int .i64 (l.getD k (0, 0)).1) ∧ w.cell? ⟨g, o + k * 2 + 1, none⟩ = some (.int .i64 (l.getD k (0, 0)).2)
theorem fracsO_below {w w' : World} {v : Value} {l : Pts} (h : FracsO w v l) (b : Below w.heap.size w w') : FracsO w' v l := by
  obtain ⟨A, cap, hv, hc⟩ := h
  exact ⟨A, cap, hv, fun k hk => let ⟨g, o, h1, h2, h3⟩ := hc k hk; ⟨g, o, h1, cell_below h2 b, cell_below h3 b⟩⟩
theorem own_fracs {w : World} {B : Nat} {v : Value} {ps : Pts} (h : w.ownsRow B 37 2 v ps.length (enc2 ps)) : FracsO w v ps := by
  obtain ⟨h1, h2⟩ := h
  rcases h2 with ⟨rfl, h0⟩ | ⟨g, cap, cur, rfl, hg, hh, hn, hcap, hsz, htake⟩
  · exact ⟨none, 0, by rw [h0], fun k hk => by omega⟩
  · refine ⟨_, cap, rfl, fun k hk => ⟨g, 0, rfl, ?_, ?_⟩⟩
    · have e : (cur.toList.take (ps.length * 2))[k * 2]? = (enc2 ps)[k * 2]? := by rw [htake]
      rw [List.getElem?_take_of_lt (by omega), (enc2_at ps hk).1] at e
      have : cur[k * 2]? = some (vz (ps.getD k (0, 0)).1) := by rw [← Array.getElem?_toList, e]
      rw [Nat.zero_add]
      simp [World.cell?, hh, this, vz]
    · have e : (cur.toList.take (ps.length * 2))[k * 2 + 1]? = (enc2 ps)[k * 2 + 1]? := by rw [htake]
      rw [List.getElem?_take_of_lt (by omega), (enc2_at ps hk).2] at e
      have : cur[k * 2 + 1]? = some (vz (ps.getD k (0, 0)).2) := by rw [← Array.getElem?_toList, e]
      rw [Nat.zero_add]
      simp [World.cell?, hh, this, vz]
theorem own_ints {w : World} {B : Nat} {v : Value} {l : List Int} (h : w.ownsRow B 3 1 v l.length (l.map vz)) : IntsO w v l := by
  obtain ⟨h1, h2⟩ := h
  rcases h2 with ⟨rfl, h0⟩ | ⟨g, cap, cur, rfl, hg, hh, hn, hcap, hsz, htake⟩
  · exact ⟨none, 0, by rw [h0], fun k hk => by omega⟩
  · refine ⟨_, cap, rfl, fun k hk => ⟨g, 0, rfl, ?_⟩⟩
    have : cur[k]? = some (.int .i64 (l.getD k 0)) := by
      have e : (cur.toList.take (l.length * 1))[k]? = (l.map vz)[k]? := by rw [htake]
      rw [List.getElem?_take_of_lt (by omega), List.getElem?_map, List.getElem?_eq_getElem hk] at e
      rw [← Array.getElem?_toList, e]
      simp [vz, List.getD, hk]
    rw [Nat.zero_add]
    simp [World.cell?, hh, this]
/-- A list of ints that came in. -/
def ArgInts (w : World) (v : Value) (zs : List Int) : Prop :=
  (v = .slice none 0 0 ∧ zs = []) ∨ (∃ (a : Addr) (cap : Nat), v = .slice (some a) 0 cap ∧ zs = []) ∨ ∃ (b o cap : Nat), v = .slice (some ⟨b, o, none⟩) zs.length cap ∧ zs.length ≤ cap ∧ cap ≤ maxLen ∧ b < w.heap.size ∧ ∀ i, i < zs.length → w.cell? ⟨b, o + i, none⟩ = some (vz (zs.getD i 0))
def ArgFracs (w : World) (v : Value) (l : Pts) : Prop :=
  (v = .slice none 0 0 ∧ l = []) ∨ (∃ (a : Addr) (cap : Nat), v = .slice (some a) 0 cap ∧ l = []) ∨ ∃ (b o cap : Nat), v = .slice (some ⟨b, o, none⟩) l.length cap ∧ l.length ≤ cap ∧ cap ≤ maxLen ∧ b < w.heap.size ∧ ∀ i, i < l.length → w.cell? ⟨b, o + i * 2, none⟩ = some (vz (l.getD i (0, 0)).1) ∧ w.cell? ⟨b, o + i * 2 + 1, none⟩ = some (vz (l.getD i (0, 0)).2)
theorem take_getz {zs : List Int} {m k : Nat} (h : k < m) : (zs.take m).getD k 0 = zs.getD k 0 := by
  rw [List.getD_eq_getElem?_getD, List.getElem?_take_of_lt h, ← List.getD_eq_getElem?_getD]
theorem take_getp {l : Pts} {m k : Nat} (h : k < m) : (l.take m).getD k (0, 0) = l.getD k (0, 0) := by
  rw [List.getD_eq_getElem?_getD, List.getElem?_take_of_lt h, ← List.getD_eq_getElem?_getD]
theorem plain_add (b o j : Nat) : (⟨b, o, none⟩ : Addr).add j = ⟨b, o + j, none⟩ := by unfold Addr.add; split <;> simp_all
theorem cells_of_arg {w : World} {b o m : Nat} {zs : List Int} (hm : m ≤ zs.length) (hc : ∀ i, i < zs.length → w.cell? ⟨b, o + i, none⟩ = some (vz (zs.getD i 0))) :
    ∀ j u, ((zs.take m).map vz)[j]? = some u → w.cell? ((⟨b, o, none⟩ : Addr).add j) = some u := by
  intro j u hj
  have hjl : j < (zs.take m).length := by
    have := (List.getElem?_eq_some_iff.1 hj).1
    simpa using this
  rw [List.length_take] at hjl
  rw [plain_add, hc j (by omega), ← hj, List.getElem?_map, List.getElem?_take_of_lt (by omega), List.getElem?_eq_getElem (show j < zs.length by omega), List.getD_eq_getElem?_getD, List.getElem?_eq_getElem (show j < zs.length by omega)]
  rfl
theorem cells_of_fracs {w : World} {b o m : Nat} {l : Pts} (hm : m ≤ l.length) (hc : ∀ i, i < l.length → w.cell? ⟨b, o + i * 2, none⟩ = some (vz (l.getD i (0, 0)).1) ∧ w.cell? ⟨b, o + i * 2 + 1, none⟩ = some (vz (l.getD i (0, 0)).2)) :
    ∀ j u, (enc2 (l.take m))[j]? = some u → w.cell? ((⟨b, o, none⟩ : Addr).add j) = some u := by
  intro j u hj
  have hlen : (l.take m).length = m := by rw [List.length_take]; omega
  have hjl : j < m * 2 := by
    have := (List.getElem?_eq_some_iff.1 hj).1
    rwa [enc2_len, hlen] at this
  have hk : j / 2 < m := by omega
  obtain ⟨e1, e2⟩ := enc2_at (l.take m) (k := j / 2) (by omega)
  obtain ⟨h1, h2⟩ := hc (j / 2) (by omega)
  rw [take_getp hk] at e1 e2
  rw [plain_add]
  rcases Nat.mod_two_eq_zero_or_one j with h | h
  · have e : j / 2 * 2 = j := by omega
    rw [e] at e1 h1
    rw [h1, ← hj, e1]
  · have e : j / 2 * 2 + 1 = j := by omega
    rw [e] at e2
    have e3 : o + j / 2 * 2 + 1 = o + j := by omega
    rw [e3] at h2
    rw [h2, ← hj, e2]
theorem ty23 : Try.prog.underlying 23 = some (.slice 3) := by kernel_rfl
theorem ty24 : Try.prog.underlying 24 = some (.slice 37) := by kernel_rfl
theorem info3 : (Try.prog.info? 3).map (fun i => (i.zero, i.size, i.bytes)) = some (some (.int .i64 0), 1, 8) := by kernel_rfl
theorem info37 : (Try.prog.info? 37).map (fun i => (i.zero, i.size, i.bytes)) = some (some (.agg #[.int .i64 0, .int .i64 0]), 2, 16) := by kernel_rfl
theorem info_parts {P : Program} {t : TypeId} {z : Value} {s b : Nat} (h : (P.info? t).map (fun i => (i.zero, i.size, i.bytes)) = some (some z, s, b)) : ∃ i, P.info? t = some i ∧ i.zero = some z ∧ i.size = s ∧ i.bytes = b := by
  cases hi : P.info? t with
  | none => rw [hi] at h; cases h
  | some i => rw [hi] at h; simp at h; exact ⟨i, rfl, h.1, h.2.1, h.2.2⟩
set_option maxRecDepth 100000 in
theorem list_any {v : Value} {zs : List Int} {w : World} (hv : ArgInts w v zs) :
    Calls Try.prog 20 #[v] w fun e w' => ∃ v', e = .returned v' ∧ w'.ownsRow w.heap.size 3 1 v' (zs.take 11).length ((zs.take 11).map vz) ∧ Below w.heap.size w w' := by
  obtain ⟨i0, hi, hz0, hz1, hz2⟩ := info_parts info3
  rcases hv with ⟨rfl, rfl⟩ | ⟨a, cap, rfl, rfl⟩ | ⟨b, o, cap, rfl, hcap, hmax, hb, hc⟩
  · go_enter Try.func20, Try.ntmps20
    go_wp2
    go_ret
    exact ⟨_, rfl, World.ownsRow_nil _ _ _ _, Below.refl _ _⟩
  · go_enter Try.func20, Try.ntmps20
    go_wp2_with (at_builtin; go_loud (
      refine wpList_append_own _ rfl _ _ 23 rfl w.heap.size 3 i0 (.int .i64 0) 1 8 ty23 hi hz0 hz1 hz2 rfl (by decide) _ 0 [] rfl (World.ownsRow_nil _ _ _ _) a 0 cap [] rfl (by simp) (by simp) (by simp) (by unfold maxLen; omega) (by omega) (by simp) ?_
      intro v' w3 hown' hgrow3 hnil3
      have hbw3 : Below w.heap.size w w3 := Below.grown (Below.refl _ _) hgrow3 (by simp) (fun k hk => by cases hk)))
    go_ret
    refine ⟨_, rfl, ?_, hbw3⟩
    simpa using hown'
  · by_cases hl : zs.length ≤ 11
    · have e : zs.take 11 = zs := List.take_of_length_le (by omega)
      rw [e]
      have hcs := cells_of_arg (m := zs.length) (Nat.le_refl _) hc
      rw [List.take_length] at hcs
      clear hc
      go_enter Try.func20, Try.ntmps20
      go_wp2_with (at_builtin; go_loud (
        refine wpList_append_own _ rfl _ _ 23 rfl w.heap.size 3 i0 (.int .i64 0) 1 8 ty23 hi hz0 hz1 hz2 rfl (by decide) _ 0 [] rfl (World.ownsRow_nil _ _ _ _) ⟨b, o, none⟩ zs.length cap (zs.map vz) rfl (by simp) hcs (fun x hx => by rw [List.mem_map] at hx; obtain ⟨_, _, rfl⟩ := hx; rfl) (by unfold maxLen; omega) (by omega) (by simp) ?_
        intro v' w3 hown' hgrow3 hnil3
        have hbw3 : Below w.heap.size w w3 := Below.grown (Below.refl _ _) hgrow3 (by simp) (fun k hk => by cases hk)))
      go_ret
      refine ⟨_, rfl, ?_, hbw3⟩
      simpa using hown'
    · have hlen : (zs.take 11).length = 11 := by rw [List.length_take]; omega
      rw [hlen]
      have hcs := cells_of_arg (m := 11) (by omega) hc
      clear hc
      have hge : (11 : Int) < (zs.length : Int) := by omega
      go_enter Try.func20, Try.ntmps20
      go_wp2_with (at_builtin; go_loud (
        refine wpList_append_own _ rfl _ _ 23 rfl w.heap.size 3 i0 (.int .i64 0) 1 8 ty23 hi hz0 hz1 hz2 rfl (by decide) _ 0 [] rfl (World.ownsRow_nil _ _ _ _) ⟨b, o, none⟩ 11 cap ((zs.take 11).map vz) rfl (by simp; omega) hcs (fun x hx => by rw [List.mem_map] at hx; obtain ⟨_, _, rfl⟩ := hx; rfl) (by unfold maxLen; omega) (by omega) (by simp) ?_
        intro v' w3 hown' hgrow3 hnil3
        have hbw3 : Below w.heap.size w w3 := Below.grown (Below.refl _ _) hgrow3 (by simp) (fun k hk => by cases hk)))
      go_ret
      refine ⟨_, rfl, ?_, hbw3⟩
      simpa using hown'
set_option maxRecDepth 100000 in
theorem fracs_any {v : Value} {l : Pts} {w : World} (hv : ArgFracs w v l) :
    Calls Try.prog 21 #[v] w fun e w' => ∃ v', e = .returned v' ∧ w'.ownsRow w.heap.size 37 2 v' (l.take 11).length (enc2 (l.take 11)) ∧ Below w.heap.size w w' := by
  obtain ⟨i0, hi, hz0, hz1, hz2⟩ := info_parts info37
  rcases hv with ⟨rfl, rfl⟩ | ⟨a, cap, rfl, rfl⟩ | ⟨b, o, cap, rfl, hcap, hmax, hb, hc⟩
  · go_enter Try.func21, Try.ntmps21
    go_wp2
    go_ret
    exact ⟨_, rfl, World.ownsRow_nil _ _ _ _, Below.refl _ _⟩
  · go_enter Try.func21, Try.ntmps21
    go_wp2_with (at_builtin; go_loud (
      refine wpList_append_own _ rfl _ _ 24 rfl w.heap.size 37 i0 (.agg #[.int .i64 0, .int .i64 0]) 2 16 ty24 hi hz0 hz1 hz2 rfl (by decide) _ 0 [] rfl (World.ownsRow_nil _ _ _ _) a 0 cap [] rfl (by simp) (by simp) (by simp) (by unfold maxLen; omega) (by omega) (by simp) ?_
      intro v' w3 hown' hgrow3 hnil3
      have hbw3 : Below w.heap.size w w3 := Below.grown (Below.refl _ _) hgrow3 (by simp) (fun k hk => by cases hk)))
    go_ret
    refine ⟨_, rfl, ?_, hbw3⟩
    simpa [enc2] using hown'
  · by_cases hl : l.length ≤ 11
    · have e : l.take 11 = l := List.take_of_length_le (by omega)
      rw [e]
      have hcs := cells_of_fracs (m := l.length) (Nat.le_refl _) hc
      rw [List.take_length] at hcs
      clear hc
      go_enter Try.func21, Try.ntmps21
      go_wp2_with (at_builtin; go_loud (
        refine wpList_append_own _ rfl _ _ 24 rfl w.heap.size 37 i0 (.agg #[.int .i64 0, .int .i64 0]) 2 16 ty24 hi hz0 hz1 hz2 rfl (by decide) _ 0 [] rfl (World.ownsRow_nil _ _ _ _) ⟨b, o, none⟩ l.length cap (enc2 l) rfl (enc2_len l) hcs (enc2_one l) (by unfold maxLen; omega) (by omega) (by simp) ?_
        intro v' w3 hown' hgrow3 hnil3
        have hbw3 : Below w.heap.size w w3 := Below.grown (Below.refl _ _) hgrow3 (by simp) (fun k hk => by cases hk)))
      go_ret
      refine ⟨_, rfl, ?_, hbw3⟩
      simpa using hown'
    · have hlen : (l.take 11).length = 11 := by rw [List.length_take]; omega
      rw [hlen]
      have hcs := cells_of_fracs (m := 11) (by omega) hc
      clear hc
      have hge : (11 : Int) < (l.length : Int) := by omega
      have hel : (enc2 (l.take 11)).length = 11 * 2 := by rw [enc2_len, hlen]
      have ho := enc2_one (l.take 11)
      generalize enc2 (l.take 11) = E at *
      go_enter Try.func21, Try.ntmps21
      go_wp2_with (at_builtin; go_loud (
        refine wpList_append_own _ rfl _ _ 24 rfl w.heap.size 37 i0 (.agg #[.int .i64 0, .int .i64 0]) 2 16 ty24 hi hz0 hz1 hz2 rfl (by decide) _ 0 [] rfl (World.ownsRow_nil _ _ _ _) ⟨b, o, none⟩ 11 cap E rfl hel hcs ho (by unfold maxLen; omega) (by omega) (by simp) ?_
        intro v' w3 hown' hgrow3 hnil3
        have hbw3 : Below w.heap.size w w3 := Below.grown (Below.refl _ _) hgrow3 (by simp) (fun k hk => by cases hk)))
      go_ret
      refine ⟨_, rfl, ?_, hbw3⟩
      simpa using hown'
theorem cells3 : Try.prog.cellsOf 3 = 1 := by kernel_rfl
theorem cells37 : Try.prog.cellsOf 37 = 2 := by kernel_rfl
theorem ty3 : Try.prog.underlying 3 = some (.int .i64) := by kernel_rfl
theorem wf64 {n : Int} (h : (Lit.int .i64 n).wf = true) : In64 n := by
  have := (Lit.wf_int_iff .i64 n).1 h
  have e1 : IntKind.i64.min = -9223372036854775808 := rfl
  have e2 : IntKind.i64.max = 9223372036854775807 := rfl
  rw [e1, e2] at this
  exact ⟨this.1, by omega⟩
set_option maxRecDepth 100000 in
theorem arg_ints {H : Type} {enc : TypeId × Value → H} {W : World} {r : Reach} {b0 : Nat} {v : Value} {d : DataW H} {ps : List MemPlace} (hval : Value.okWide Try.prog W r b0 23 v)
    (hd : DataW.Trod enc Try.prog W 0 (fun _ => true) true 23 v d ps) : ∃ zs : List Int, ArgInts W v zs := by
  obtain ⟨a, len, cap, rfl⟩ := okWide_slice ty23 hval
  obtain ⟨fuel, hf⟩ := hd
  rcases open_ints ty23 ty3 cells3 hf with ⟨hc, hx⟩ | ⟨a', len', cap', zs, hc, _, hl, hm, hz, hx, hcell, hwz⟩
  · simp [Value.cells] at hc
    obtain ⟨rfl, rfl, rfl⟩ := hc
    exact ⟨[], .inl ⟨rfl, rfl⟩⟩
  · simp [Value.cells] at hc
    obtain ⟨rfl, rfl, rfl⟩ := hc
    rw [if_pos rfl] at hz
    obtain ⟨b, o, sp⟩ := a'
    rcases Nat.eq_zero_or_pos len with h0 | h0
    · subst h0
      exact ⟨[], .inr (.inl ⟨_, _, rfl, rfl⟩)⟩
    · have g0 := hcell 0 (by omega)
      have hspot : sp = none := by simpa [Addr.add] using World.cell?_spot g0
      subst hspot
      have hlen : (zs.take len).length = len := by rw [List.length_take]; omega
      refine ⟨zs.take len, .inr (.inr ⟨b, o, cap, by rw [hlen], by omega, hm, ?_, fun i hi => ?_⟩)⟩
      · rcases Nat.lt_or_ge b W.heap.size with h | h
        · exact h
        · simp [Addr.add, World.cell?, Array.getElem?_eq_none h] at g0
      · have h1 := hcell i (by omega)
        rw [plain_add] at h1
        rw [h1, List.getD_eq_getElem?_getD, List.getD_eq_getElem?_getD, List.getElem?_take_of_lt (by omega)]
theorem pick_pairs {p : Nat → Int × Int → Prop} : ∀ n, (∀ k, k < n → ∃ z, p k z) → ∃ ls : Pts, ls.length = n ∧ ∀ k, k < n → p k (ls.getD k (0, 0))
  | 0, _ => ⟨[], rfl, fun k hk => by omega⟩
  | n + 1, h => by
    obtain ⟨ls, h1, h2⟩ := pick_pairs n fun k hk => h k (by omega)
    obtain ⟨z, hz⟩ := h n (by omega)
    refine ⟨ls ++ [z], by simp [h1], fun k hk => ?_⟩
    by_cases e : k = n
    · subst e
      rw [List.getD_eq_getElem?_getD, List.getElem?_append_right (by omega), h1]
      simpa using hz
    · have := h2 k (by omega)
      rw [List.getD_eq_getElem?_getD, List.getElem?_append_left (by omega), ← List.getD_eq_getElem?_getD]
      exact this
theorem all_of_getp {l : Pts} {p : Int × Int → Prop} (h : ∀ i, i < l.length → p (l.getD i (0, 0))) : ∀ z ∈ l, p z := by
  intro z hz
  obtain ⟨i, hi, rfl⟩ := List.mem_iff_getElem.1 hz
  have := h i hi
  rwa [List.getD_eq_getElem?_getD, List.getElem?_eq_getElem hi] at this
theorem getp {l : Pts} {k : Nat} (h : k < l.length) : l.getD k (0, 0) ∈ l := by
  rw [List.getD_eq_getElem?_getD, List.getElem?_eq_getElem h]; exact List.getElem_mem _
set_option maxRecDepth 100000 in
theorem arg_fracs {H : Type} {enc : TypeId × Value → H} {W : World} {r : Reach} {b0 : Nat} {v : Value} {d : DataW H} {ps : List MemPlace} (hval : Value.okWide Try.prog W r b0 24 v)
    (hd : DataW.Trod enc Try.prog W 0 (fun _ => true) true 24 v d ps) : ∃ l : Pts, ArgFracs W v l ∧ ∀ z ∈ l, In64 z.1 ∧ In64 z.2 := by
  obtain ⟨a, len, cap, rfl⟩ := okWide_slice ty24 hval
  obtain ⟨fuel, hf⟩ := hd
  rcases DataW.trod_slice ty24 hf with ⟨hc, hx⟩ | ⟨a', len', cap', elems, rest, n, _, hc, hx, _, hl, hm, hlen, hel, _⟩
  · simp [Value.cells] at hc
    obtain ⟨rfl, rfl, rfl⟩ := hc
    exact ⟨[], .inl ⟨rfl, rfl⟩, fun z hz => by cases hz⟩
  · simp [Value.cells] at hc
    obtain ⟨rfl, rfl, rfl⟩ := hc
    have each : ∀ k, k < len → ∃ z : Int × Int, (W.cell? (a'.add (k * 2)) = some (.int .i64 z.1) ∧ W.cell? ((a'.add (k * 2)).add 1) = some (.int .i64 z.2)) ∧ In64 z.1 ∧ In64 z.2 := by
      intro k hk
      have hE := hel k hk
      rw [cells37, List.getElem?_eq_getElem (show k < elems.length by omega), Option.bind_eq_some_iff] at hE
      obtain ⟨cs, hcs, hy⟩ := hE
      obtain ⟨_, hcl, hcc⟩ := World.cells?_some hcs
      match cs, hcl with
      | [c0, c1], _ =>
        obtain ⟨y0, y1, m, _, _, t0, t1⟩ := trod_struct2 Try.underlying37 hy
        simp only [cells3, List.drop_zero, List.drop_succ_cons, List.take_succ_cons, List.take_zero] at t0 t1
        obtain ⟨n0, k0, _, w0⟩ := DataW.trod_int Try.underlying3 t0
        obtain ⟨n1, k1, _, w1⟩ := DataW.trod_int Try.underlying3 t1
        simp only [List.cons.injEq, and_true] at k0 k1
        subst k0 k1
        have h0 := hcc 0 (by omega)
        have h1 := hcc 1 (by omega)
        refine ⟨(n0, n1), ⟨?_, ?_⟩, wf64 w0, wf64 w1⟩
        · have : (a'.add (k * 2)).add 0 = a'.add (k * 2) := by simp [Addr.add]
          rw [this] at h0; simpa using h0
        · simpa using h1
    obtain ⟨ls, h1, h2⟩ := pick_pairs len each
    obtain ⟨b, o, sp⟩ := a'
    rcases Nat.eq_zero_or_pos len with h0 | h0
    · subst h0
      have : ls = [] := List.eq_nil_of_length_eq_zero h1
      subst this
      exact ⟨[], .inr (.inl ⟨_, _, rfl, rfl⟩), fun z hz => by cases hz⟩
    · obtain ⟨⟨g0, g1⟩, _⟩ := h2 0 h0
      have hspot : sp = none := by simpa [Addr.add] using World.cell?_spot g0
      subst hspot
      rw [plain_add] at g0
      refine ⟨ls, .inr (.inr ⟨b, o, cap, by rw [h1], by omega, by omega, ?_, fun i hi => ?_⟩), ?_⟩
      · rcases Nat.lt_or_ge b W.heap.size with h | h
        · exact h
        · simp [World.cell?, Array.getElem?_eq_none h] at g0
      · obtain ⟨⟨u0, u1⟩, _⟩ := h2 i (by omega)
        rw [plain_add] at u0 u1
        rw [plain_add] at u1
        exact ⟨u0, u1⟩
      · exact all_of_getp fun i hi => (h2 i (by omega)).2
end Go.Proofs.Ytbocmbhinjkjlaa

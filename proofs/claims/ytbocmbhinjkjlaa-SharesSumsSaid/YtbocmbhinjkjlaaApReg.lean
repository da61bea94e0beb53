/- An append in a drawn region. -/
import Derived.Test.YtbocmbhinjkjlaaSumsPre
set_option linter.unusedSimpArgs false
set_option linter.unusedVariables false
namespace Go.Proofs.Ytbocmbhinjkjlaa
open Go Go.Proofs Go.RowKit Go.Seq Go.ChangeShapes Go.WideShapes Go.ChangeAt Go.Joins
theorem own_after {W W' : World} {B n : Nat} {v : Value} {xs : List Value} (h : W.ownsRow B 37 2 v n xs) (hb : Below W.heap.size W W') : W'.ownsRow B 37 2 v n xs := by
  obtain ⟨h1, h2⟩ := h
  refine ⟨h1, ?_⟩
  rcases h2 with h | ⟨g, cap, cur, hv, hg, hh, r⟩
  · exact .inl h
  · exact .inr ⟨g, cap, cur, hv, hg, (hb.block _ (Array.getElem?_eq_some_iff.1 hh).1).trans hh, r⟩
theorem mod_b (x : Int) {m : Nat} (h1 : 1 ≤ m) (h2 : m ≤ 1000000000) (w : World) : Calls Try.prog 57 #[.int .i64 x, .int .i64 m] w fun e w' => e = .returned (.int .i64 (modN x m : Nat)) ∧ Below w.heap.size w w' :=
  (mod_any x h1 h2 w).mono fun e w' h => ⟨h.1, by rw [h.2]; exact Below.refl _ _⟩
theorem own_shape {W : World} {B n : Nat} {v : Value} {xs : List Value} (h : W.ownsRow B 37 2 v n xs) : ∃ C c, v = .slice C n c := by
  rcases h.2 with ⟨rfl, rfl⟩ | ⟨g, cap, cur, rfl, _⟩
  · exact ⟨none, 0, rfl⟩
  · exact ⟨_, cap, rfl⟩
theorem arg_intsO {w : World} {v : Value} {zs : List Int} (h : ArgInts w v zs) : IntsO w v zs := by
  rcases h with ⟨rfl, rfl⟩ | ⟨a, cap, rfl, rfl⟩ | ⟨b, o, cap, rfl, _, _, _, hc⟩
  · exact ⟨none, 0, rfl, fun k hk => by simp at hk⟩
  · exact ⟨some a, cap, rfl, fun k hk => by simp at hk⟩
  · exact ⟨_, cap, rfl, fun k hk => ⟨b, o, rfl, hc k hk⟩⟩
/-- An own row of fractions, and one more. -/
theorem own_push {W : World} {B gB : Nat} {v : Value} {ps : Pts} {x0 x1 : Int} (ty : TypeId) (h : W.ownsRow B 37 2 v ps.length (enc2 ps)) (hb : BlkAt W gB #[.int .i64 x0, .int .i64 x1] 37) (hl : ps.length ≤ 1000) (hB : B ≤ W.heap.size) :
    ∃ v3 W3, (Builtin.append_ #[24, 24] ty #[v, .slice (some ⟨gB, 0, none⟩) 1 1]).run Try.prog W = .ok v3 W3 ∧ W3.ownsRow B 37 2 v3 (ps.length + 1) (enc2 (ps ++ [(x0, x1)])) ∧ Below B W W3 := by
  obtain ⟨i0, hi, hz0, hz1, hz2⟩ := info_parts info37
  obtain ⟨v3, W3, hr, ho, hg, _⟩ := run_append_own (P := Try.prog) W B 24 ty 37 i0 (.agg #[.int .i64 0, .int .i64 0]) 2 16 ty24 hi hz0 hz1 hz2 rfl (by decide) v ps.length (enc2 ps) h ⟨gB, 0, none⟩ 1 1 [.int .i64 x0, .int .i64 x1] rfl (fun j u hj => by
    rw [plain_add, Nat.zero_add, hb.cell]
    match j, hj with
    | 0, hj => simpa using hj
    | 1, hj => simpa using hj
    | j + 2, hj => simp at hj) (fun u hu => by simp only [List.mem_cons, List.not_mem_nil, or_false] at hu; rcases hu with rfl | rfl <;> rfl) (by unfold maxLen; omega) (by omega) hB
  refine ⟨v3, W3, hr, by rw [enc2_push]; exact ho, (Below.refl _ _).grown hg hB (fun k hk => ?_)⟩
  rcases h.2 with ⟨rfl, _⟩ | ⟨g, cap, cur, rfl, hg', _⟩
  · cases hk
  · cases hk; exact hg'
structure ApI (W0 : World) (B iB iA iS : Nat) (ps : Pts) (x0 x1 : Int) (v : Value) (t : Nat → Bool) (gB : Nat) (v2 : Value) (W : World) : Prop where
  bw : Below B W0 W
  bs : B ≤ W0.heap.size
  row : t iA = false → W.ownsRow B 37 2 v ps.length (enc2 ps)
  own : t iB = true → t iA = false → BlkAt W gB #[.int .i64 x0, .int .i64 x1] 37
  res : t iA = true → W.ownsRow B 37 2 v2 (ps.length + 1) (enc2 (ps ++ [(x0, x1)]))
  eA : t iA = true → t iB = true
  eS : t iS = true → t iA = true
section
variable {W0 W W' : World} {B iB iA iS gB : Nat} {ps : Pts} {x0 x1 : Int} {v v2 : Value} {t : Nat → Bool}
theorem ApI.start (hr : W0.ownsRow B 37 2 v ps.length (enc2 ps)) (hB : B ≤ W0.heap.size) (h1 : t iB = false) (h2 : t iA = false) (h3 : t iS = false) : ApI W0 B iB iA iS ps x0 x1 v t gB v2 W0.drew :=
  ⟨((Below.refl _ _).drew), hB, fun _ => own_after hr (Below.refl _ _).drew, (fun h => by rw [h1] at h; cases h), (fun h => by rw [h2] at h; cases h), (fun h => by rw [h2] at h; cases h), (fun h => by rw [h3] at h; cases h)⟩
theorem ApI.keep {i : Nat} (hB : (i == iB) = false) (hA : (i == iA) = false) (hS : (i == iS) = false) (h : ApI W0 B iB iA iS ps x0 x1 v t gB v2 W) : ApI W0 B iB iA iS ps x0 x1 v (Manyd.upd t i) gB v2 W :=
  ⟨h.bw, h.bs, by rw [upd_ne hA]; exact h.row, by rw [upd_ne hA, upd_ne hB]; exact h.own, by rw [upd_ne hA]; exact h.res, by rw [upd_ne hA, upd_ne hB]; exact h.eA, by rw [upd_ne hS, upd_ne hA]; exact h.eS⟩
theorem ApI.after (h : ApI W0 B iB iA iS ps x0 x1 v t gB v2 W) (hb : Below W.heap.size W W') : ApI W0 B iB iA iS ps x0 x1 v t gB v2 W' :=
  ⟨h.bw.trans (hb.mono (Nat.le_trans h.bs h.bw.size)), h.bs, fun k => own_after (h.row k) hb, fun k1 k2 => (h.own k1 k2).after hb, fun k => own_after (h.res k) hb, h.eA, h.eS⟩
theorem ApI.noS (h : ApI W0 B iB iA iS ps x0 x1 v t gB v2 W) (hA : t iA = false) : t iS = false := by
  cases e : t iS with
  | false => rfl
  | true => rw [h.eS e] at hA; cases hA
theorem ApI.laid (hne : (iB == iA) = false) (hneS : (iB == iS) = false) (h : ApI W0 B iB iA iS ps x0 x1 v t gB v2 W) (hun : t iB = false) : ApI W0 B iB iA iS ps x0 x1 v (Manyd.upd t iB) W.heap.size v2 (W.alloc (.cells #[.int .i64 x0, .int .i64 x1] 37)) := by
  have hA : t iA = false := by
    cases e : t iA with
    | false => rfl
    | true => rw [h.eA e] at hun; cases hun
  have hS := h.noS hA
  have h' := h.after ((Below.refl _ _).alloc (Nat.le_refl _) (.cells #[.int .i64 x0, .int .i64 x1] 37))
  refine ⟨h'.bw, h.bs, by rw [upd_ne hne]; exact h'.row, fun _ _ => BlkAt.new _ _ _, by rw [upd_ne hne]; exact h'.res, fun _ => by simp [Manyd.upd], by rw [upd_ne hneS, hS]; intro e; cases e⟩
theorem ApI.grow (ty : TypeId) (hne : (iA == iB) = false) (hneS : (iA == iS) = false) (hl : ps.length ≤ 1000) (h : ApI W0 B iB iA iS ps x0 x1 v t gB v2 W) (hB : t iB = true) (hun : t iA = false) :
    ∃ v3 W3, (Builtin.append_ #[24, 24] ty #[v, .slice (some ⟨gB, 0, none⟩) 1 1]).run Try.prog W = .ok v3 W3 ∧ ApI W0 B iB iA iS ps x0 x1 v (Manyd.upd t iA) gB v3 W3 := by
  have hS := h.noS hun
  obtain ⟨v3, W3, hr, ho, hb⟩ := own_push (ty := ty) (h.row hun) (h.own hB hun) hl (Nat.le_trans h.bs h.bw.size)
  have tt : Manyd.upd t iA iA = true := by simp [Manyd.upd]
  refine ⟨v3, W3, hr, h.bw.trans hb, h.bs, ?_, ?_, fun _ => ho, fun _ => upd_keep hB, fun _ => tt⟩
  · rw [tt]; intro e; cases e
  · rw [tt]; intro _ e; cases e
theorem ApI.assign (hne : (iS == iB) = false) (hneA : (iS == iA) = false) (hA : t iA = true) (h : ApI W0 B iB iA iS ps x0 x1 v t gB v2 W) : ApI W0 B iB iA iS ps x0 x1 v (Manyd.upd t iS) gB v2 W :=
  ⟨h.bw, h.bs, by rw [upd_ne hneA]; exact h.row, by rw [upd_ne hneA, upd_ne hne]; exact h.own, by rw [upd_ne hneA]; exact h.res, by rw [upd_ne hneA, upd_ne hne]; exact h.eA, fun _ => upd_keep hA⟩
end
end Go.Proofs.Ytbocmbhinjkjlaa

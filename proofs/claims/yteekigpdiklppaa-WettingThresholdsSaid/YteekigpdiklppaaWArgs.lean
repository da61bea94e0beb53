import Derived.Test.YteekigpdiklppaaWTame
import Derived.Test.YteekigpdiklppaaRows
import Derived.OpenShut
import Derived.Lib.SmallJoins
set_option linter.unusedSimpArgs false
set_option linter.unusedVariables false
namespace Go.Proofs.Yteekigpdiklppaa
open Go Go.Proofs Go.RowKit Go.ChangeShapes Go.WideShapes Go.ChangeAt Go.Joins
theorem ok_int {P : Program} {W : World} {r : Reach} {b0 : Nat} {t : TypeId} {c : Value} (ht : P.underlying t = some (.int .i64)) (h : Cell.okWide P W r b0 t c) : ∃ x, c = .int .i64 x :=
  Go.WideShapes.okWide_int ht (by unfold Value.okWide; rw [ht]; exact h)
theorem arr_ints {P : Program} {W : World} {r : Reach} {b0 : Nat} {t k : TypeId} {n m : Nat} {v : Value} (hu : P.underlying t = some (.array m k)) (hc : P.cellsOf t = n) (ht : P.cellTypes P.depth t = some (List.replicate n 3))
    (h3 : P.underlying 3 = some (.int .i64)) (hval : Value.okWide P W r b0 t v) : ∃ cs : Array Value, v = .agg cs ∧ cs.size = n ∧ ∀ i, i < n → ∃ x : Int, cs[i]? = some (.int .i64 x) := by
  unfold Value.okWide at hval
  rw [hu] at hval
  obtain ⟨cs, rfl, hsz, ts, hts, _, hall⟩ := hval
  rw [ht] at hts
  obtain rfl := Option.some.inj hts
  rw [hc] at hsz
  refine ⟨cs, rfl, hsz, fun i hi => ?_⟩
  have hlt : i < cs.size := by rw [hsz]; exact hi
  obtain ⟨c, hci⟩ : ∃ c, cs[i]? = some c := ⟨cs[i]'hlt, Array.getElem?_eq_getElem hlt⟩
  obtain ⟨u, hu1, hu2⟩ := hall i c hci
  have hu3 : u = 3 := by
    rw [List.length_replicate, Nat.mod_eq_of_lt hi, List.getElem?_replicate, if_pos hi] at hu1
    exact (Option.some.inj hu1).symm
  rw [hu3] at hu2
  obtain ⟨x, hx⟩ := ok_int h3 hu2
  exact ⟨x, by rw [hci, hx]⟩
theorem arr2 {cs : Array Value} (h : cs.size = 2) (hi : ∀ i, i < 2 → ∃ x : Int, cs[i]? = some (.int .i64 x)) : ∃ a b : Int, cs = #[.int .i64 a, .int .i64 b] := by
  obtain ⟨a, ha⟩ := hi 0 (by omega)
  obtain ⟨b, hb⟩ := hi 1 (by omega)
  refine ⟨a, b, ?_⟩
  apply Array.ext_getElem?
  intro i
  match i with
  | 0 => simpa using ha
  | 1 => simpa using hb
  | i + 2 => rw [Array.getElem?_eq_none (by omega)]; simp
theorem arr3 {cs : Array Value} (h : cs.size = 3) (hi : ∀ i, i < 3 → ∃ x : Int, cs[i]? = some (.int .i64 x)) : ∃ a b c : Int, cs = #[.int .i64 a, .int .i64 b, .int .i64 c] := by
  obtain ⟨a, ha⟩ := hi 0 (by omega)
  obtain ⟨b, hb⟩ := hi 1 (by omega)
  obtain ⟨c, hc⟩ := hi 2 (by omega)
  refine ⟨a, b, c, ?_⟩
  apply Array.ext_getElem?
  intro i
  match i with
  | 0 => simpa using ha
  | 1 => simpa using hb
  | 2 => simpa using hc
  | i + 3 => rw [Array.getElem?_eq_none (by omega)]; simp
set_option maxRecDepth 100000 in
theorem arg3 {W : World} {r : Reach} {b0 : Nat} {v : Value} (hval : Value.okWide Try.prog W r b0 70 v) : ∃ a b c : Int, v = .agg #[.int .i64 a, .int .i64 b, .int .i64 c] := by
  obtain ⟨cs, rfl, h1, h2⟩ := arr_ints (n := 3) (m := 3) (k := 3) (by kernel_rfl) (by kernel_rfl) (by kernel_rfl) (by kernel_rfl) hval
  obtain ⟨a, b, c, rfl⟩ := arr3 h1 h2
  exact ⟨a, b, c, rfl⟩
theorem cells63 : Try.prog.cellsOf 63 = 2 := by kernel_rfl
theorem cells3 : Try.prog.cellsOf 3 = 1 := by kernel_rfl
theorem pick_pairs {p : Nat → Int × Int → Prop} : ∀ n, (∀ k, k < n → ∃ z, p k z) → ∃ ls : Pts, ls.length = n ∧ ∀ k, k < n → p k (ls.getD k (0, 0))
  | 0, _ => ⟨[], rfl, fun k hk => by omega⟩
  | n + 1, h => by
    obtain ⟨ls, h1, h2⟩ := pick_pairs n fun k hk => h k (by omega)
    obtain ⟨z, hz⟩ := h n (by omega)
    refine ⟨ls ++ [z], by simp [h1], fun k hk => ?_⟩
    by_cases e : k = n
    · subst e
      rw [List.getD_eq_getElem?_getD, List.getElem?_append_right (by omega), h1]
      simpa using hz
    · have := h2 k (by omega)
      rw [List.getD_eq_getElem?_getD, List.getElem?_append_left (by omega), ← List.getD_eq_getElem?_getD]
      exact this
set_option maxRecDepth 100000 in
theorem arg_pairs {H : Type} {enc : TypeId × Value → H} {W : World} {r : Reach} {b0 : Nat} {v : Value} {d : DataW H} {ps : List MemPlace} (hval : Value.okWide Try.prog W r b0 22 v)
    (hd : DataW.Trod enc Try.prog W 0 (fun _ => true) true 22 v d ps) : ∃ l : Pts, PairsO W v l ∧ l.length ≤ maxLen := by
  obtain ⟨a, len, cap, rfl⟩ := okWide_slice ty22 hval
  obtain ⟨fuel, hf⟩ := hd
  rcases DataW.trod_slice ty22 hf with ⟨hc, hx⟩ | ⟨a', len', cap', elems, rest, n, _, hc, hx, _, hl, hm, hlen, hel, _⟩
  · simp [Value.cells] at hc
    obtain ⟨rfl, rfl, rfl⟩ := hc
    exact ⟨[], ⟨none, 0, rfl, fun k hk => by simp at hk⟩, by simp⟩
  · simp [Value.cells] at hc
    obtain ⟨rfl, rfl, rfl⟩ := hc
    have each : ∀ k, k < len → ∃ z : Int × Int, W.cell? (a'.add (k * 2)) = some (.int .i64 z.1) ∧ W.cell? ((a'.add (k * 2)).add 1) = some (.int .i64 z.2) := by
      intro k hk
      have hE := hel k hk
      rw [cells63, List.getElem?_eq_getElem (show k < elems.length by omega), Option.bind_eq_some_iff] at hE
      obtain ⟨cs, hcs, hy⟩ := hE
      obtain ⟨_, hcl, hcc⟩ := World.cells?_some hcs
      obtain ⟨xs, m, _, _, _, hxl, hxe⟩ := DataW.trod_array Try.underlying63 hy
      have e0 := hxe 0 (by omega)
      have e1 := hxe 1 (by omega)
      rw [cells3, List.getElem?_eq_getElem (show 0 < xs.length by omega)] at e0
      rw [cells3, List.getElem?_eq_getElem (show 1 < xs.length by omega)] at e1
      obtain ⟨n0, k0, _, _⟩ := DataW.trod_int Try.underlying3 e0
      obtain ⟨n1, k1, _, _⟩ := DataW.trod_int Try.underlying3 e1
      match cs, hcl with
      | [c0, c1], _ =>
        simp at k0 k1
        subst k0 k1
        have h0 := hcc 0 (by omega)
        have h1 := hcc 1 (by omega)
        refine ⟨(n0, n1), ?_, ?_⟩
        · have : (a'.add (k * 2)).add 0 = a'.add (k * 2) := by simp [Addr.add]
          rw [this] at h0; simpa using h0
        · simpa using h1
    obtain ⟨ls, h1, h2⟩ := pick_pairs len each
    obtain ⟨b, o, sp⟩ := a'
    refine ⟨ls, ⟨some ⟨b, o, sp⟩, cap, by rw [h1], fun k hk => ?_⟩, by omega⟩
    obtain ⟨hu, hu1⟩ := h2 k (by omega)
    have hspot : sp = none := by
      obtain ⟨hu0, _⟩ := h2 0 (by omega)
      simpa [Addr.add] using World.cell?_spot hu0
    subst hspot
    have hplain : ∀ (b o j : Nat), (⟨b, o, none⟩ : Addr).add j = ⟨b, o + j, none⟩ := fun b o j => by unfold Addr.add; split <;> simp_all
    rw [hplain] at hu hu1
    rw [hplain] at hu1
    exact ⟨b, o, rfl, hu, hu1⟩
end Go.Proofs.Yteekigpdiklppaa

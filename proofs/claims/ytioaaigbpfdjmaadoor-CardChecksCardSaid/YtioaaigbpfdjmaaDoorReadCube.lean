import Derived.Test.YtioaaigbpfdjmaaDoorCubePoints
import Derived.RegionTactic
import Derived.ChangeAlike
import Derived.Laws.ResultCell
set_option linter.unusedSimpArgs false
set_option linter.unusedVariables false
namespace Go.Proofs.YtioaaigbpfdjmaaDoor
open Go Go.Proofs Go.RowKit
def fixB (s : ByteArray) (F k : Nat) : Prop := ∀ i, F.testBit i = (decide (i < k) && !(s.data.toList.getD i 0 == 45))
def valB (s : ByteArray) (V k : Nat) : Prop := ∀ i, V.testBit i = (decide (i < k) && s.data.toList.getD i 0 == 49)
theorem or_bit (F k : Nat) (hF : F < 32) (hk : k < 5) : bits .or .i64 (F : Int) (wrap64 (2 ^ k)) = ((F ||| 2 ^ k : Nat) : Int) ∧ F ||| 2 ^ k < 32 := by
  have hp : 2 ^ k < 2 ^ 5 := Nat.pow_lt_pow_right (by decide) hk
  have e : wrap64 ((2 : Int) ^ k) = ((2 ^ k : Nat) : Int) := by
    have : k = 0 ∨ k = 1 ∨ k = 2 ∨ k = 3 ∨ k = 4 := by omega
    unfold wrap64
    rcases this with h | h | h | h | h <;> rw [h] <;> decide
  rw [e]
  exact ⟨or_i64 F _ (by omega) (by omega), Nat.or_lt_two_pow (n := 5) (by omega) hp⟩
theorem fix_yes {s : ByteArray} {F k : Nat} (h : fixB s F k) (hc : (s.data.toList.getD k 0 == 45) = false) : fixB s (F ||| 2 ^ k) (k + 1) := by
  intro i
  rw [Nat.testBit_or, h, Nat.testBit_two_pow]
  by_cases hk : k = i
  · subst hk; simp only [decide_true, Bool.or_true, hc]; simp
  · have e : (i < k + 1) = (i < k) := by apply propext; omega
    simp [hk, e]
theorem fix_no {s : ByteArray} {F k : Nat} (h : fixB s F k) (hc : (s.data.toList.getD k 0 == 45) = true) : fixB s F (k + 1) := by
  intro i
  rw [h]
  by_cases hk : i = k
  · subst hk; rw [hc]; simp
  · have e : (i < k + 1) = (i < k) := by apply propext; omega
    simp [e]
theorem val_yes {s : ByteArray} {V k : Nat} (h : valB s V k) (hc : (s.data.toList.getD k 0 == 49) = true) : valB s (V ||| 2 ^ k) (k + 1) := by
  intro i
  rw [Nat.testBit_or, h, Nat.testBit_two_pow]
  by_cases hk : k = i
  · subst hk; simp only [decide_true, Bool.or_true, hc]; simp
  · have e : (i < k + 1) = (i < k) := by apply propext; omega
    simp [hk, e]
theorem val_no {s : ByteArray} {V k : Nat} (h : valB s V k) (hc : (s.data.toList.getD k 0 == 49) = false) : valB s V (k + 1) := by
  intro i
  rw [h]
  by_cases hk : i = k
  · subst hk; rw [hc]; simp
  · have e : (i < k + 1) = (i < k) := by apply propext; omega
    simp [e]
theorem getD_at {s : ByteArray} {k : Nat} (h : k < s.size) : s.data.toList.getD k 0 = s[k] := by
  have hk : k < s.data.toList.length := by simpa using h
  rw [List.getD_eq_getElem?_getD, List.getElem?_eq_getElem hk, ByteArray.getElem_eq_getElem_data]; simp
theorem below_set {B : Nat} {a w : World} (h : Below B a w) {b o : Nat} (hb : B ≤ b) (v : Value) : Below B a (w.setCell ⟨b, o, none⟩ v) := h.trans ((Below.refl _ _).setCell hb _)
set_option maxRecDepth 100000 in
theorem read_any (s : ByteArray) (h5 : s.size ≤ 5) (w : World) :
    Calls Tryd.prog 91 #[.string s, .int .i64 (s.size : Nat)] w fun e w' => (∃ F V : Nat, e = .returned (.tuple #[.agg #[.int .i64 F, .int .i64 V], .bool (okCube s)]) ∧ (okCube s = true → F < 32 ∧ V < 32 ∧ fixB s F s.size ∧ valB s V s.size)) ∧ Below w.heap.size w w' := by
  go_enter Tryd.func91, Tryd.ntmps91
  go_wp2
  go_loopw [15] (fun i wr => ∃ k F V : Nat, k ≤ s.size ∧ i = .int .i64 k ∧ F < 32 ∧ V < 32 ∧ fixB s F k ∧ valB s V k ∧ (s.data.toList.take k).all okB = true ∧ Below w.heap.size w wr ∧
     wr.cell? ⟨w.heap.size, 0, none⟩ = some (.int .i64 0) ∧ wr.cell? ⟨w.heap.size, 1, none⟩ = some (.int .i64 0) ∧ wr.frozen? ⟨w.heap.size, 0, none⟩ = false ∧ wr.frozen? ⟨w.heap.size, 1, none⟩ = false ∧
     wr.cell? ⟨w.heap.size + 1, 0, none⟩ = some (.int .i64 F) ∧ wr.cell? ⟨w.heap.size + 1, 1, none⟩ = some (.int .i64 V) ∧ wr.frozen? ⟨w.heap.size + 1, 0, none⟩ = false ∧ wr.frozen? ⟨w.heap.size + 1, 1, none⟩ = false) (fun i _ => s.size - (intOf i).toNat)
  case atStart =>
    refine ⟨0, 0, 0, by omega, rfl, by omega, by omega, fun i => by simp, fun i => by simp, by simp, ((Below.refl _ _).alloc (Nat.le_refl _) _).alloc (by simp) _, ?_, ?_, ?_, ?_, ?_, ?_, ?_, ?_⟩ <;> go_simp
  case round =>
    obtain ⟨k, F, V, hk, rfl, hF, hV, hfix, hval, hall, hbw, c0, c1, z0, z1, c2, c3, z2, z3⟩ := hrel
    by_cases hlt : k < s.size
    · have hget := getD_at hlt
      obtain ⟨o1, o2⟩ := or_bit F k hF (by omega)
      obtain ⟨p1, p2⟩ := or_bit V k hV (by omega)
      by_cases h48 : (s[k].toNat : Int) = 48
      · have hch := u8_of (n := 48) (by omega) h48
        go_wp2
        go_region
        go_wp2
        refine ⟨⟨k + 1, F ||| 2 ^ k, V, by omega, by go_num, o2, hV, fix_yes hfix (by rw [hget, hch]; rfl), val_no hval (by rw [hget, hch]; rfl), take_succ_all hlt hall (by rw [hch]; rfl), ?_, ?_, ?_, ?_, ?_, ?_, ?_, ?_, ?_⟩, by simp [intOf]; omega⟩
        · exact below_drewN (below_set hbw (by omega) _) 1
        all_goals go_simp
      · by_cases h49 : (s[k].toNat : Int) = 49
        · have hch := u8_of (n := 49) (by omega) h49
          go_wp2
          go_region
          go_wp2
          go_region
          go_wp2
          refine ⟨⟨k + 1, F ||| 2 ^ k, V ||| 2 ^ k, by omega, by go_num, o2, p2, fix_yes hfix (by rw [hget, hch]; rfl), val_yes hval (by rw [hget, hch]; rfl), take_succ_all hlt hall (by rw [hch]; rfl), ?_, ?_, ?_, ?_, ?_, ?_, ?_, ?_, ?_⟩, by simp [intOf]; omega⟩
          · exact ((below_set (below_set hbw (by omega) _) (by omega) _).drew).drew
          all_goals go_simp
        · by_cases h45 : (s[k].toNat : Int) = 45
          · have hch := u8_of (n := 45) (by omega) h45
            go_wp2
            exact ⟨⟨k + 1, F, V, by omega, by go_num, hF, hV, fix_no hfix (by rw [hget, hch]; rfl), val_no hval (by rw [hget, hch]; rfl), take_succ_all hlt hall (by rw [hch]; rfl), hbw, c0, c1, z0, z1, c2, c3, z2, z3⟩, by simp [intOf]; omega⟩
          · have hO : okCube s = false := not_all hlt (okB_false h48 h49 h45)
            go_wp2
            refine bodyPost_ret (v := .tuple #[.agg #[.int .i64 ((0 : Nat) : Int), .int .i64 ((0 : Nat) : Int)], .bool false]) (by rw [results_cell_tmp rfl]; go_simp) rfl ?_
            exact ⟨⟨0, 0, by rw [hO], by rw [hO]; simp⟩, below_set (below_set hbw (by omega) _) (by omega) _⟩
    · go_wp2
      have : k = s.size := by omega
      subst this
      have hO : okCube s = true := by
        have e : s.data.toList.take s.size = s.data.toList := List.take_of_length_le (by simp)
        rw [e] at hall; exact hall
      refine bodyPost_ret (v := .tuple #[.agg #[.int .i64 F, .int .i64 V], .bool true]) (by rw [results_cell_tmp rfl]; go_simp) rfl ?_
      exact ⟨⟨F, V, by rw [hO], fun _ => ⟨hF, hV, hfix, hval⟩⟩, below_set (below_set hbw (by omega) _) (by omega) _⟩
end Go.Proofs.YtioaaigbpfdjmaaDoor

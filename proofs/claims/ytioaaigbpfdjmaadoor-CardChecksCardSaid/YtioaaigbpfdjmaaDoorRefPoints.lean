import Derived.Test.YtioaaigbpfdjmaaDoorContains
import Derived.OwnWalk
import Derived.Deep.DeepMust
import Derived.Laws.AppendOwn
set_option linter.unusedSimpArgs false
set_option linter.unusedVariables false
namespace Go.Proofs.YtioaaigbpfdjmaaDoor
open Go Go.Proofs Go.RowKit
theorem ty27 : Tryd.prog.underlying 27 = some (.slice 3) := by kernel_rfl
theorem info3 : (Tryd.prog.info? 3).map (fun i => (i.zero, i.size, i.bytes)) = some (some (.int .i64 0), 1, 8) := by kernel_rfl
structure Side (p : Prop) : Prop where
  out : p
def vi (n : Nat) : Value := .int .i64 n
def ptsTo (s : ByteArray) (k : Nat) : List Nat := (List.range k).filter (inC s)
theorem ptsTo_yes {s : ByteArray} {k : Nat} (h : inC s k = true) : ptsTo s (k + 1) = ptsTo s k ++ [k] := by
  simp [ptsTo, List.range_succ, h]
theorem ptsTo_no {s : ByteArray} {k : Nat} (h : inC s k = false) : ptsTo s (k + 1) = ptsTo s k := by
  simp [ptsTo, List.range_succ, h]
theorem ptsTo_len (s : ByteArray) (k : Nat) : (ptsTo s k).length ≤ k := by
  have := List.length_filter_le (inC s) (List.range k)
  simpa [ptsTo] using this
theorem cell_one_new (w : World) (a : Value) (t : TypeId) : ∀ j u, [a][j]? = some u → (w.alloc (.cells #[a] t)).cell? ((⟨w.heap.size, 0, none⟩ : Addr).add j) = some u := by
  intro j u hj
  match j, hj with
  | 0, hj => simp at hj; subst hj; simp [Addr.add]
  | j + 1, hj => simp at hj
theorem grown_of_below {w w' : World} (b : Below w.heap.size w w') : w.grownBy w' none := ⟨b.os, b.tape, b.output, b.size, fun k h _ => b.block k h⟩
theorem own_below {w w' : World} {base : Nat} {e : TypeId} {size : Nat} {v : Value} {n : Nat} {xs : List Value} (h : w.ownsRow base e size v n xs) (b : Below w.heap.size w w') : w'.ownsRow base e size v n xs := by
  refine h.kept (grown_of_below b) ?_
  cases hv : v.ownBlock with
  | none => exact .inl rfl
  | some k => exact .inr (by simp)
theorem below_trans {B : Nat} {a w w' : World} (h : Below B a w) (b : Below w.heap.size w w') (hB : B ≤ w.heap.size) : Below B a w' := Below.grown h (grown_of_below b) hB (by simp)
set_option maxRecDepth 100000 in
theorem refPoints_any (s : ByteArray) (N : Nat) (hN : N = 2 ^ s.size) (w : World) (h5 : s.size ≤ 5) (hc : okCube s = true) :
    Calls Tryd.prog 53 #[.string s] w fun e w' => ∃ v, e = .returned v ∧ w'.ownsRow w.heap.size 3 1 v (ptsTo s N).length ((ptsTo s N).map vi) ∧ Below w.heap.size w w' := by
  obtain ⟨i0, hi, hz0, hz1, hz2⟩ := info_parts info3
  have hpow : N ≤ 32 := hN ▸ Nat.pow_le_pow_right (n := 2) (by decide) h5
  have hN1 : IntKind.i64.wrap (2 ^ s.size) = (N : Int) := by
    have : s.size = 0 ∨ s.size = 1 ∨ s.size = 2 ∨ s.size = 3 ∨ s.size = 4 ∨ s.size = 5 := by omega
    rw [hN]
    rcases this with h | h | h | h | h | h <;> rw [h] <;> rfl
  clear hN
  go_enter Tryd.func53, Tryd.ntmps53
  go_wp2
  go_loopw [3, 4] (fun v i wr => ∃ k : Nat, k ≤ N ∧ i = .int .i64 k ∧ wr.ownsRow w.heap.size 3 1 v (ptsTo s k).length ((ptsTo s k).map vi) ∧ Below w.heap.size w wr) (fun _ i _ => N - (intOf i).toNat)
  case atStart => exact ⟨0, by omega, rfl, World.ownsRow_nil _ _ _ _, Below.refl _ _⟩
  case round =>
    obtain ⟨k, hk, rfl, hown, hbw⟩ := hrel
    have hl := ptsTo_len s k
    have hbz : w.heap.size ≤ wr.heap.size := hbw.size
    go_wp2_with (first
      | (go_at_call 66; refine (contains_any s k _ (by omega) (by omega) hc).mono ?_; rintro e w2 ⟨rfl, hb2⟩; have hown2 := own_below hown hb2; have hbw2 := below_trans hbw hb2 hbz; have hbz2 : w.heap.size ≤ w2.heap.size := hbw2.size; clear hown hbw)
      | (at_builtin; go_loud (
         refine wpList_append_own _ rfl _ _ 27 rfl w.heap.size 3 i0 (.int .i64 0) 1 8 ty27 hi hz0 hz1 hz2 rfl (by decide) _ _ _ rfl (hown2.alloc _) ⟨w2.heap.size, 0, none⟩ 1 1 [.int .i64 k] rfl rfl (cell_one_new _ _ _) (fun x hx => by simp at hx; subst hx; rfl) (by unfold maxLen; omega) (by omega) (by simp; omega) ?_
         intro v' w3 hown' hgrow3 hnil3
         have hbw3 : Below w.heap.size w w3 := Below.grown (hbw2.alloc (by omega) _) hgrow3 (by simp; omega) (fun j hj => by have := (hown2.lt _ hj).1; omega)
         have X : Side (w3.ownsRow w.heap.size 3 1 v' ((ptsTo s k).length + 1) ((ptsTo s k).map vi ++ [.int .i64 k]) ∧ Below w.heap.size w w3) := ⟨⟨hown', hbw3⟩⟩
         clear hown' hgrow3 hnil3 hbw3)))
    · have hin : inC s k = true := by assumption
      obtain ⟨h1, h2⟩ := X.out
      refine ⟨⟨k + 1, by omega, by go_num, ?_, h2⟩, by simp [intOf]; omega⟩
      rw [ptsTo_yes hin]
      simp only [List.length_append, List.map_append, List.length_cons, List.length_nil, List.map_cons, List.map_nil]
      exact h1
    · rename_i hin
      exact ⟨⟨k + 1, by omega, by go_num, by rw [ptsTo_no hin]; exact hown2, hbw2⟩, by simp [intOf]; omega⟩
    · have : k = N := by omega
      subst this
      go_ret
      exact ⟨_, rfl, hown, hbw⟩
end Go.Proofs.YtioaaigbpfdjmaaDoor

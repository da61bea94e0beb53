import Derived.Test.YtioaaigbpfdjmaaDoorFlipMath
set_option linter.unusedSimpArgs false
set_option linter.unusedVariables false
namespace Go.Proofs.YtioaaigbpfdjmaaDoor
open Go Go.Proofs Go.RowKit
def ModEnd (n : Nat) (e : Ending) : Prop := ∃ m : Nat, m < n ∧ e = .returned (.int .i64 m)
set_option maxRecDepth 100000 in
theorem mod_any {x : Int} {n : Nat} {w : World} (h1 : 1 ≤ n) (h2 : n ≤ 1000) :
    Calls Tryd.prog 55 #[.int .i64 x, .int .i64 n] w fun e w' => ModEnd n e ∧ w' = w := by
  have hx : IntKind.u64.wrap x = ((x % 18446744073709551616).toNat : Int) := by show x % 18446744073709551616 = _; omega
  have hn : IntKind.u64.wrap (n : Int) = (n : Int) := by show (n : Int) % 18446744073709551616 = _; omega
  generalize (x % 18446744073709551616).toNat = y at hx
  have hr : ((y : Int).tmod (n : Int)) = ((y % n : Nat) : Int) := by rw [Int.tmod_eq_emod_of_nonneg (by omega)]; push_cast; rfl
  have hlt : y % n < n := Nat.mod_lt _ (by omega)
  have hlt2 : y % n < 1000 := by omega
  obtain ⟨m, hm⟩ : ∃ m, Keep (y % n = m) := ⟨_, ⟨rfl⟩⟩
  rw [hm.out] at hr hlt hlt2
  have hn0 : ((n : Int) == 0) = false := by rw [beq_eq_false_iff_ne]; omega
  go_enter Tryd.func55, Tryd.ntmps55
  go_wp2
  go_ret
  exact ⟨⟨m, hlt, rfl⟩, rfl⟩
theorem byte_wrap (b : UInt8) : wrap64 (b.toNat : Int) = (b.toNat : Int) := by
  have := b.toNat_lt
  unfold wrap64
  omega
def FnEnd (n : Nat) (e : Ending) : Prop := ∃ f : ByteArray, e = .returned (.string f) ∧ FnOK f n
theorem fn_of_list {l : List UInt8} {n : Nat} (hl : l.length = 2 ^ n) (hc : ∀ b ∈ l, b = 48 ∨ b = 49) : FnOK ⟨l.toArray⟩ n := by
  refine ⟨by show l.toArray.size = _; rw [List.size_toArray, hl], fun q h => ?_⟩
  have e : (⟨l.toArray⟩ : ByteArray)[q] = l[q]'(by have : (⟨l.toArray⟩ : ByteArray).size = l.length := List.size_toArray
                                                   omega) := rfl
  rw [e]
  exact hc _ (List.getElem_mem _)
set_option maxHeartbeats 1000000 in
set_option maxRecDepth 100000 in
theorem function_any {s : ByteArray} {n N : Nat} {w : World} (hsz : s.size ≤ 9223372036854775807) (hn5 : n ≤ 5) (hN : Keep (N = 2 ^ n)) (hN1 : 1 ≤ N) (hN32 : N ≤ 32) :
    Calls Tryd.prog 54 #[.string s, .int .i64 n, .int .i64 2] w fun e w' => FnEnd n e ∧ Below w.heap.size w w' := by
  obtain ⟨i0, hi, hz0, hz1, hz2⟩ := info_parts info5
  have hwN := wrap_pow (k := n) (by omega)
  rw [← hN.out] at hwN
  have hwN2 : IntKind.i64.wrap (2 ^ n) = (N : Int) := hwN
  clear hwN
  go_enter Tryd.func54, Tryd.ntmps54
  go_wp2
  go_loopw [7, 8] (fun v0 i wr => ∃ (p : Nat) (l : List UInt8) (v : Value), v = v0 ∧ p ≤ N ∧ i = .int .i64 p ∧ l.length = p ∧ Keep (∀ b ∈ l, b = 48 ∨ b = 49) ∧ wr.ownsRow w.heap.size 5 1 v l.length (l.map vb) ∧ Below w.heap.size w wr) (fun _ i _ => N - (intOf i).toNat)
  case atStart => exact ⟨0, [], _, rfl, by omega, rfl, rfl, ⟨by simp⟩, World.ownsRow_nil _ _ _ _, Below.refl _ _⟩
  case round =>
    obtain ⟨p, l, v, rfl, hp, rfl, hl, hc, hown, hbw⟩ := hrel
    have hbz : w.heap.size ≤ wr.heap.size := hbw.size
    have hlk := Keep.mk hl
    clear hl
    by_cases hpN : p < N
    · have hcase : (∃ h : p < s.size, (s[p].toNat : Int).tmod 2 = 1) ∨ (¬ (p < s.size)) ∨ (∃ h : p < s.size, (s[p].toNat : Int).tmod 2 = 0) := by
        by_cases h : p < s.size
        · have : (s[p].toNat : Int).tmod 2 = 0 ∨ (s[p].toNat : Int).tmod 2 = 1 := by
            rw [Int.tmod_eq_emod_of_nonneg (by omega)]; omega
          rcases this with h2 | h2
          · exact .inr (.inr ⟨h, h2⟩)
          · exact .inl ⟨h, h2⟩
        · exact .inr (.inl h)
      have step : ∀ b : UInt8, (b = 48 ∨ b = 49) → Keep (∀ c ∈ l ++ [b], c = 48 ∨ c = 49) := fun b hb => ⟨fun c hc' => by
        rw [List.mem_append, List.mem_singleton] at hc'
        rcases hc' with h | rfl
        · exact hc.out c h
        · exact hb⟩
      rcases hcase with ⟨hps, hm⟩ | hrest
      · have hst := step 49 (.inr rfl)
        have hwr := byte_wrap s[p]
        clear step
        go_wp2_with (at_builtin; go_loud (
             refine wpList_append_own _ rfl _ _ 72 rfl w.heap.size 5 i0 (.int .u8 0) 1 1 ty72 hi hz0 hz1 hz2 rfl (by decide) _ _ _ rfl (hown.alloc _) ⟨wr.heap.size, 0, none⟩ 1 1 [.int .u8 49] rfl rfl (cell_one_new _ _ _) (fun x hx => by simp at hx; subst hx; rfl) (by rw [hlk.out]; unfold maxLen; omega) (by rw [hlk.out]; omega) (by simp; omega) ?_
             intro v' w3 hown' hgrow3 hnil3
             have hbw3 : Below w.heap.size w w3 := Below.grown (hbw.alloc (by omega) _) hgrow3 (by simp; omega) (fun j hj => by have := (hown.lt _ hj).1; omega)
             have X : Keep (w3.ownsRow w.heap.size 5 1 v' (l.length + 1) (l.map vb ++ [.int .u8 49]) ∧ Below w.heap.size w w3) := ⟨⟨hown', hbw3⟩⟩
             clear hown' hgrow3 hnil3 hbw3))
        obtain ⟨q1, q2⟩ := X.out
        refine ⟨⟨p + 1, l ++ [49], _, rfl, by omega, by go_num, by rw [List.length_append, hlk.out]; rfl, hst, ?_, q2⟩, by simp [intOf]; omega⟩
        rw [List.length_append, List.map_append]
        exact q1
      · have hst := step 48 (.inl rfl)
        clear step
        rcases hrest with hps | ⟨hps, hm⟩
        case' inr => have hwr := byte_wrap s[p]
        all_goals
          go_wp2_with (at_builtin; go_loud (
             refine wpList_append_own _ rfl _ _ 72 rfl w.heap.size 5 i0 (.int .u8 0) 1 1 ty72 hi hz0 hz1 hz2 rfl (by decide) _ _ _ rfl (hown.alloc _) ⟨wr.heap.size, 0, none⟩ 1 1 [.int .u8 48] rfl rfl (cell_one_new _ _ _) (fun x hx => by simp at hx; subst hx; rfl) (by rw [hlk.out]; unfold maxLen; omega) (by rw [hlk.out]; omega) (by simp; omega) ?_
             intro v' w3 hown' hgrow3 hnil3
             have hbw3 : Below w.heap.size w w3 := Below.grown (hbw.alloc (by omega) _) hgrow3 (by simp; omega) (fun j hj => by have := (hown.lt _ hj).1; omega)
             have X : Keep (w3.ownsRow w.heap.size 5 1 v' (l.length + 1) (l.map vb ++ [.int .u8 48]) ∧ Below w.heap.size w w3) := ⟨⟨hown', hbw3⟩⟩
             clear hown' hgrow3 hnil3 hbw3))
          obtain ⟨q1, q2⟩ := X.out
          refine ⟨⟨p + 1, l ++ [48], _, rfl, by omega, by go_num, by rw [List.length_append, hlk.out]; rfl, hst, ?_, q2⟩, by simp [intOf]; omega⟩
          rw [List.length_append, List.map_append]
          exact q1
    · have : p = N := by omega
      subst this
      obtain ⟨g, cap, rfl, hcell⟩ := own_bytes hown (by rw [hlk.out]; exact hN1)
      have hconv := run_convert_bytes_back (P := Tryd.prog) wr 72 9 5 ⟨g, 0, none⟩ cap _ ty72 ty5 ty9 hcell
      go_wp2
      go_ret
      exact ⟨⟨_, rfl, fn_of_list (by rw [hlk.out, hN.out]) hc.out⟩, hbw⟩
end Go.Proofs.YtioaaigbpfdjmaaDoor

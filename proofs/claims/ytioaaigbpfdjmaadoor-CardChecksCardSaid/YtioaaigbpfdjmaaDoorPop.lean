import Derived.Test.YtioaaigbpfdjmaaDoorAwake
import Derived.Test.YtioaaigbpfdjmaaDoorWeigh
set_option linter.unusedSimpArgs false
set_option linter.unusedVariables false
namespace Go.Proofs.YtioaaigbpfdjmaaDoor
open Go Go.CRun Go.Proofs Go.RowKit
def pc8 (b : Nat) : Nat := ((List.range 8).filter b.testBit).length
theorem range32 : List.range 32 = List.range 8 ++ ((List.range 8).map (· + 8) ++ ((List.range 8).map (· + 16) ++ (List.range 8).map (· + 24))) := by decide
theorem pc_shift (x k : Nat) : (((List.range 8).map (· + k)).filter x.testBit).length = pc8 (x / 2 ^ k &&& 255) := by
  unfold pc8
  rw [List.filter_map, List.length_map]
  congr 1
  apply List.filter_congr
  intro j hj
  rw [List.mem_range] at hj
  have h255 : (255 : Nat).testBit j = true := by
    have : j = 0 ∨ j = 1 ∨ j = 2 ∨ j = 3 ∨ j = 4 ∨ j = 5 ∨ j = 6 ∨ j = 7 := by omega
    rcases this with h | h | h | h | h | h | h | h <;> subst h <;> decide
  rw [Nat.testBit_and, h255, Bool.and_true, Nat.testBit_div_two_pow]
  rfl
theorem pc_bytes (x : Nat) : (bitsOf x).length = pc8 (x / 2 ^ 24 &&& 255) + pc8 (x / 2 ^ 16 &&& 255) + pc8 (x / 2 ^ 8 &&& 255) + pc8 (x &&& 255) := by
  unfold bitsOf
  rw [range32, List.filter_append, List.filter_append, List.filter_append, List.length_append, List.length_append, List.length_append, pc_shift, pc_shift, pc_shift]
  have h0 : ((List.range 8).filter x.testBit).length = pc8 (x &&& 255) := by
    have := pc_shift x 0
    rw [Nat.pow_zero, Nat.div_one] at this
    rw [← this]
    congr 1
  omega
theorem pc8_le (b : Nat) : pc8 b ≤ 8 := Nat.le_trans (List.length_filter_le _ _) (by simp)
theorem low8v (x d : Nat) (hx : x < 4294967296) : (x / d &&& 255) < 256 ∧ bits .and .u32 ((x : Int) / (d : Int)) 255 = ((x / d &&& 255 : Nat) : Int) := by
  refine ⟨?_, ?_⟩
  · exact Nat.lt_of_le_of_lt Nat.and_le_right (by decide)
  · have e : ((x : Int) / (d : Int)) = ((x / d : Nat) : Int) := by push_cast; rfl
    have := Nat.div_le_self x d
    rw [e]
    exact bits_and_u32_nat (x / d) 255 (by omega) (by decide)
def popOK (T : ByteArray) : Bool := (List.range 256).all fun b => decide ((T.data.toList.getD b 0).toNat = pc8 b)
set_option maxHeartbeats 1000000 in
set_option maxRecDepth 100000 in
theorem ones_exact (x : Nat) (hx : x < 4294967296) (w : World) :
    Calls Tryd.prog 106 #[.int .u32 x] w fun e w' => e = .returned (.int .i64 ((bitsOf x).length : Nat)) ∧ Below w.heap.size w w' := by
  have hpc := pc_bytes x
  obtain ⟨r, hr⟩ : ∃ r, Keep ((bitsOf x).length = r) := ⟨_, ⟨rfl⟩⟩
  rw [hr.out] at hpc ⊢
  go_enter Tryd.func106, Tryd.ntmps106
  go_wp2
  generalize hS : Operand.const (Value.string _) = C
  obtain ⟨T, rfl, hT, hP⟩ : ∃ T : ByteArray, C = Operand.const (Value.string T) ∧ T.size = 256 ∧ popOK T = true := ⟨_, hS.symm, by rfl, by kernel_rfl⟩
  clear hS
  have hval : ∀ b (h : b < T.size), (T[b].toNat : Int) = ((pc8 b : Nat) : Int) := fun b h => by
    have := List.all_eq_true.1 hP b (by rw [List.mem_range]; omega)
    have h2 := of_decide_eq_true this
    rw [getD_at h] at h2
    rw [h2]
  have ha0 : x / 2 ^ 24 &&& 255 = x / 16777216 := by
    have : x / 16777216 < 256 := by omega
    have e : (255 : Nat) = 2 ^ 8 - 1 := rfl
    rw [e, Nat.and_two_pow_sub_one_eq_mod]
    exact Nat.mod_eq_of_lt this
  obtain ⟨a, hae, ha⟩ : ∃ a : Nat, Keep (a = x / 16777216) ∧ (x : Int) / 16777216 = (a : Int) := ⟨x / 16777216, ⟨rfl⟩, by omega⟩
  obtain ⟨hb1, hb⟩ := low8v x 65536 hx
  obtain ⟨hc1, hc⟩ := low8v x 256 hx
  obtain ⟨hd1, hd⟩ := low8v x 1 hx
  rw [Nat.div_one] at hd1 hd
  obtain ⟨b, hbe⟩ : ∃ b, Keep (b = x / 65536 &&& 255) := ⟨_, ⟨rfl⟩⟩
  obtain ⟨c, hce⟩ : ∃ b, Keep (b = x / 256 &&& 255) := ⟨_, ⟨rfl⟩⟩
  obtain ⟨d, hde⟩ : ∃ b, Keep (b = x &&& 255) := ⟨_, ⟨rfl⟩⟩
  have hpk : Keep (r = pc8 a + pc8 b + pc8 c + pc8 d) := ⟨by rw [hpc, ha0, hae.out, hbe.out, hce.out, hde.out]⟩
  rw [← hbe.out] at hb1 hb
  rw [← hce.out] at hc1 hc
  rw [← hde.out] at hd1 hd
  simp only [Int.cast_ofNat_Int, Int.ediv_one] at hb hc hd
  rw [← hT] at hb1 hc1 hd1
  have ha1 : a < T.size := by have := hae.out; omega
  have va := hval a ha1
  have vbb := hval b hb1
  have vc := hval c hc1
  have vd := hval d hd1
  have la := pc8_le a
  have lb := pc8_le b
  have lc := pc8_le c
  have ld := pc8_le d
  generalize pc8 a = pa at va la hpk
  generalize pc8 b = pb at vbb lb hpk
  generalize pc8 c = pc at vc lc hpk
  generalize pc8 d = pd at vd ld hpk
  clear hT hP hval hpc ha0
  go_quiet (fail)
  go_wp2
  go_ret
  refine ⟨?_, below_drewN (Below.refl _ _) _⟩
  rw [hpk.out]; push_cast; rfl
theorem sizeX (x : Nat) (hx : x < 4294967296) (w : World) :
    Calls Tryd.prog 77 #[.int .u32 x] w fun e w' => e = .returned (.int .i64 ((bitsOf x).length : Nat)) ∧ Below w.heap.size w w' := by
  go_enter Tryd.func77, Tryd.ntmps77
  go_wp2_with (go_at_call 106; refine (ones_exact x hx _).mono ?_; rintro e w' ⟨rfl, hb⟩)
  go_ret
  exact ⟨rfl, hb⟩
/-- The number of digits 1. -/
def digN (p : Nat) : Nat := ((List.range 5).filter p.testBit).length
theorem knownNil : KnownOK Tryd.prog [] 0 (tabs extT []) := knownOK_of prog_ok ext_ok (by simp)
theorem flat_call {n : Nat} {f : FuncId} {args : List Value} {v : Value} (hr : runF Tryd.prog [] (tabs extT []) n f args (isRes ⟨false, [.flat v]⟩) = true) (hf : allFlat args = true) (w : World) :
    Calls Tryd.prog f args.toArray w fun e w' => e = .returned v ∧ Below w.heap.size w w' := by
  refine (sum_of_run prog_ok knownNil hr hf w (fun g vs h => by cases h) (Nat.zero_le _)).mono ?_
  rintro e w' ⟨vs, rfl, hb, hp⟩
  refine ⟨?_, hb⟩
  cases vs with
  | nil => exact hp.elim
  | cons x xs => obtain ⟨rfl, _, _⟩ := hp; rfl
noncomputable def runDig (f : FuncId) (k : IntKind) (p : Nat) : Bool := runF Tryd.prog [] (tabs extT []) 300 f [.int k (Int.ofNat p)] (isRes ⟨false, [.flat (.int .i64 (Int.ofNat (digN p)))]⟩)
theorem run79 : (List.range 32).all (runDig 79 .u64) = true := by kernel_rfl
theorem run82 : (List.range 32).all (runDig 82 .i64) = true := by kernel_rfl
theorem onesN (p : Nat) (hp : p < 32) (w : World) : Calls Tryd.prog 79 #[.int .u64 (p : Nat)] w fun e w' => e = .returned (.int .i64 (digN p : Nat)) ∧ Below w.heap.size w w' :=
  flat_call (List.all_eq_true.1 run79 p (by rw [List.mem_range]; exact hp)) rfl w
theorem digits_any (p : Nat) (hp : p < 32) (w : World) : Calls Tryd.prog 82 #[.int .i64 (p : Nat)] w fun e w' => e = .returned (.int .i64 (digN p : Nat)) ∧ Below w.heap.size w w' :=
  flat_call (List.all_eq_true.1 run82 p (by rw [List.mem_range]; exact hp)) rfl w
theorem dig_le (p : Nat) : digN p ≤ 5 := Nat.le_trans (List.length_filter_le _ _) (by simp)
end Go.Proofs.YtioaaigbpfdjmaaDoor

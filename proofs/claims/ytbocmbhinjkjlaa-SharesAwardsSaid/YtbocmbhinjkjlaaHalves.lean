/- Awards of the program by level: halves. -/
import Derived.Test.YtbocmbhinjkjlaaLevel
set_option linter.unusedSimpArgs false
set_option linter.unusedVariables false
namespace Go.Proofs.Ytbocmbhinjkjlaa
open Go Go.Proofs Go.RowKit Go.Seq Go.Sort
def fracZ (n : Nat) : Array Value := madeCells #[.int .i64 0, .int .i64 0] (n * 2)
theorem fracZ_size (n : Nat) : (fracZ n).size = n * 2 := by unfold fracZ; exact (size_madeCells _ _)
theorem made24 {N : Nat} (h : N ≤ 12) (w : World) : (Sem.run Try.prog (Instr.makeSlice 24 (.int .i64 (N : Int)) (.int .i64 (N : Int)))) w = .ok (.slice (some ⟨w.heap.size, 0, none⟩) N N) (w.alloc (.cells (fracZ N) 37)) := by
  obtain ⟨i, hI, z1, z2, z3⟩ := info_parts info37
  have r := run_make (P := Try.prog) w 24 37 i _ ty24 hI z1 .i64 .i64 (N : Int) (N : Int) (by omega) (by omega) (by rw [z3]; omega) (by omega)
  rw [show (N : Int).toNat = N by omega, z2] at r
  exact r
/-- A row of fractions in the making. -/
def RowF (W : World) (G n : Nat) (f : Nat → Int × Int) (k : Nat) : Prop := ∃ arr : Array Value, BlkAt W G arr 37 ∧ arr.size = n * 2 ∧ ∀ i, i < k → arr[i * 2]? = some (.int .i64 (f i).1) ∧ arr[i * 2 + 1]? = some (.int .i64 (f i).2)
theorem RowF.start {W : World} {n : Nat} {f : Nat → Int × Int} : RowF (W.alloc (.cells (fracZ n) 37)) W.heap.size n f 0 := ⟨fracZ n, BlkAt.new _ _ _, fracZ_size n, fun i hi => by omega⟩
theorem RowF.after {W W' : World} {G n k : Nat} {f : Nat → Int × Int} (h : RowF W G n f k) (hb : Below W.heap.size W W') : RowF W' G n f k := by
  obtain ⟨arr, h1, h2, h3⟩ := h
  exact ⟨arr, h1.after hb, h2, h3⟩
theorem RowF.store {W : World} {G n k : Nat} {f : Nat → Int × Int} (h : RowF W G n f k) (hk : k < n) : RowF ((W.setCell ⟨G, k * 2, none⟩ (.int .i64 (f k).1)).setCell ⟨G, k * 2 + 1, none⟩ (.int .i64 (f k).2)) G n f (k + 1) := by
  obtain ⟨arr, h1, h2, h3⟩ := h
  refine ⟨_, (h1.set (k * 2) _).set (k * 2 + 1) _, by simp [h2], fun i hi => ?_⟩
  rcases Nat.lt_or_ge i k with h | h
  · have := h3 i h
    constructor
    · rw [Array.getElem?_setIfInBounds_ne (by omega), Array.getElem?_setIfInBounds_ne (by omega)]; exact this.1
    · rw [Array.getElem?_setIfInBounds_ne (by omega), Array.getElem?_setIfInBounds_ne (by omega)]; exact this.2
  · obtain rfl : i = k := by omega
    constructor
    · rw [Array.getElem?_setIfInBounds_ne (by omega), Array.getElem?_setIfInBounds_self_of_lt (by omega)]
    · rw [Array.getElem?_setIfInBounds_self_of_lt (by simp; omega)]
theorem RowF.can {W : World} {G n k i : Nat} {f : Nat → Int × Int} (h : RowF W G n f k) (hi : i < n * 2) : (∃ u, W.cell? ⟨G, i, none⟩ = some u) ∧ W.frozen? ⟨G, i, none⟩ = false := by
  obtain ⟨arr, h1, h2, h3⟩ := h
  exact ⟨⟨arr[i]'(by omega), by rw [h1.cell]; simp [h2, hi]⟩, h1.free i⟩
theorem RowF.fracs {W : World} {G n : Nat} {f : Nat → Int × Int} (h : RowF W G n f n) : FracsO W (.slice (some ⟨G, 0, none⟩) n n) ((List.range n).map f) := by
  obtain ⟨arr, h1, h2, h3⟩ := h
  refine ⟨_, n, by simp, fun k hk => ⟨G, 0, rfl, ?_, ?_⟩⟩
  · have hk' : k < n := by simpa using hk
    rw [Nat.zero_add, h1.cell, (h3 k hk').1]
    simp [List.getD, hk']
  · have hk' : k < n := by simpa using hk
    rw [Nat.zero_add, h1.cell, (h3 k hk').2]
    simp [List.getD, hk']
theorem RowK.cell {W : World} {G n i : Nat} {f : Nat → Int} (h : RowK W G n f n) (hi : i < n) : W.cell? ⟨G, i, none⟩ = some (.int .i64 (f i)) := by
  obtain ⟨arr, h1, h2, h3⟩ := h
  rw [h1.cell, h3 i hi]
/-- The bounds of what level finds. -/
theorem Lev.bounds {zs : List Int} {E N L : Int} (h : Lev zs E N L) (hV : Valid zs) (hE : 0 ≤ E ∧ E ≤ zs.sum) : 1 ≤ N ∧ N ≤ 10 ∧ -10000 ≤ L ∧ L ≤ 10000 := by
  obtain ⟨o, J, hasc, hJ, rfl, rfl, _, _⟩ := h.ex
  have hob : ∀ z ∈ o, 0 ≤ z ∧ z ≤ 1000 := fun z hz => hV.2.2 z (hasc.perm.mem_iff.1 hz)
  have h1 := sum_bound hob J
  have h2 := sum_bound hV.2.2 zs.length
  rw [List.take_length] at h2
  have := hV.2.1
  omega
def halfF (zs : List Int) (N L : Int) (i : Nat) : Int × Int := (redN (partF zs N L i) (2 * N), redD (partF zs N L i) (2 * N))
set_option maxHeartbeats 4000000 in
set_option maxRecDepth 100000 in
theorem halves_any {H : Nat} {v E0 S0 : Value} {zs : List Int} {E : Int} {w : World} (hg : Own3 w H v E0 S0) (hc : IntsO w v zs) (hV : Valid zs) (hE : 0 ≤ E ∧ E ≤ zs.sum) :
    Calls Try.prog 112 #[.pointer (some ⟨H, 0, none⟩), .int .i64 E] w fun e w' => ∃ (G : Nat) (N L : Int), e = .returned (.slice (some ⟨G, 0, none⟩) zs.length zs.length) ∧ Lev zs E N L ∧ w.heap.size ≤ G ∧ RowF w' G zs.length (halfF zs N L) zs.length ∧ Below w.heap.size w w' := by
  have q111 := level_any hg hc hV hE
  have hmk := fun w => made24 (N := zs.length) (by have := hV.2.1; omega) w
  have hVK := Keep.mk hV
  have hEK := Keep.mk hE
  obtain ⟨n, hn⟩ : ∃ n, Keep (zs.length = n) := ⟨_, ⟨rfl⟩⟩
  have hn10 : n ≤ 10 := by have := hV.2.1; have := hn.out; omega
  rw [hn.out] at q111 hmk ⊢
  clear hg hc hV hE
  go_enter Try.func112, Try.ntmps112
  go_wp2_with (go_at_call 111; (with_reducible refine q111.mono ?_); rintro e w1 ⟨G1, N, L, rfl, hlev, hG1, hrow, hb1⟩
               have hbd := hlev.bounds hVK.out hEK.out
               have hrow0 : RowF (w1.alloc (.cells (fracZ n) 37)) w1.heap.size n (halfF zs N L) 0 := RowF.start
               have hbA : Below w1.heap.size w1 (w1.alloc (.cells (fracZ n) 37)) := (Below.refl _ _).alloc (Nat.le_refl _) _
               have hlK := Keep.mk hlev
               have hrK := Keep.mk hrow
               clear q111 hlev hrow)
  go_loopw [21] (fun i wq => ∃ k : Nat, k ≤ n ∧ i = .int .i64 k ∧ Below w1.heap.size w1 wq ∧ RowF wq w1.heap.size n (halfF zs N L) k) (fun i _ => n - (intOf i).toNat)
  case atStart => exact ⟨0, by omega, rfl, hbA, hrow0⟩
  case round =>
    obtain ⟨k, hk, rfl, hbk, hrow⟩ := hrel
    have hbkz := hbk.size
    by_cases hkn : k < n
    · have hkn' : (k : Int) < (n : Int) := by omega
      have hc1 := cell_below (hrK.out.cell hkn) hbk
      have hpf : Keep (halfF zs N L k = (redN (partF zs N L k) (2 * N), redD (partF zs N L k) (2 * N))) := ⟨rfl⟩
      have hzb := hVK.out.2.2 _ (getz (zs := zs) (k := k) (by have := hn.out; omega))
      have hpb : -100000 ≤ partF zs N L k ∧ partF zs N L k ≤ 100000 := by
        have hm := mul_in (a := zs.getD k 0) (b := N) (A := 1000) (B := 10) hzb.1 hzb.2 (by omega) (by omega)
        unfold partF
        split <;> omega
      have q96 := fun w => lowest_any (partF zs N L k) (2 * N) (by omega) (by omega) (by omega) (by omega) w
      have w2N : IntKind.i64.wrap (2 * N) = 2 * N := IntWalk.i64_in _ (by omega)
      have hst := fun W (h : RowF W w1.heap.size n (halfF zs N L) k) => h.store hkn
      rw [hpf.out] at hst
      generalize partF zs N L k = P at *
      obtain ⟨x0, hx0⟩ : ∃ x, Keep (redN P (2 * N) = x) := ⟨_, ⟨rfl⟩⟩
      obtain ⟨x1, hx1⟩ : ∃ x, Keep (redD P (2 * N) = x) := ⟨_, ⟨rfl⟩⟩
      rw [hx0.out, hx1.out] at q96 hst
      unfold fracV at q96
      clear hpf hzb hpb hx0 hx1
      go_wp2_with (go_at_call 96; (with_reducible refine (q96 _).mono ?_); rintro e w5 ⟨rfl, hb5⟩
                   have hrow5 := hrow.after hb5
                   have hst5 := hst _ hrow5
                   have hb15 := hbk.trans (hb5.mono hbkz)
                   obtain ⟨⟨u0, hu0⟩, hf0⟩ := hrow5.can (i := k * 2) (by omega)
                   obtain ⟨⟨u1, hu1⟩, hf1⟩ := hrow5.can (i := k * 2 + 1) (by omega)
                   clear hb5)
      exact ⟨⟨k + 1, by omega, by go_num, (hb15.setCell (p := ⟨w1.heap.size, k * 2, none⟩) (Nat.le_refl _) _).setCell (p := ⟨w1.heap.size, k * 2 + 1, none⟩) (Nat.le_refl _) _, hst5⟩, by simp [intOf]; omega⟩
    · obtain rfl : k = n := by omega
      go_wp2
      go_ret
      exact ⟨w1.heap.size, N, L, rfl, hlK.out, hb1.size, hrow, hb1.trans (hbk.mono hb1.size)⟩
end Go.Proofs.Ytbocmbhinjkjlaa

import Derived.Test.YtioaaigbpfdjmaaDoorMoved
import Derived.Deep.DeepMust
import Derived.Laws.IdiomStrings
set_option linter.unusedSimpArgs false
set_option linter.unusedVariables false
namespace Go.Proofs.YtioaaigbpfdjmaaDoor
open Go Go.Proofs Go.RowKit
theorem ty72 : Tryd.prog.underlying 72 = some (.slice 5) := by kernel_rfl
theorem ty5 : Tryd.prog.underlying 5 = some (.int .u8) := by kernel_rfl
theorem ty9 : Tryd.prog.underlying 9 = some .string := by kernel_rfl
theorem info5 : (Tryd.prog.info? 5).map (fun i => (i.zero, i.size, i.bytes)) = some (some (.int .u8 0), 1, 1) := by kernel_rfl
def vb (b : UInt8) : Value := .int .u8 (b.toNat : Nat)
/-- The bytes that a map of the points picks. -/
def pickL (s : ByteArray) (g : Nat → Nat) (N : Nat) : List UInt8 := (List.range N).map fun p => s.data.toList.getD (g p) 0
theorem pick_len (s : ByteArray) (g : Nat → Nat) (N : Nat) : (pickL s g N).length = N := by simp [pickL]
theorem pick_push (s : ByteArray) (g : Nat → Nat) (N : Nat) : pickL s g (N + 1) = pickL s g N ++ [s.data.toList.getD (g N) 0] := by simp [pickL, List.range_succ]
theorem xor_i64 (a b : Nat) (ha : a < 4294967296) (hb : b < 4294967296) : bits .xor .i64 (a : Int) (b : Int) = ((a ^^^ b : Nat) : Int) := by
  have hx : a ^^^ b < 2 ^ 32 := Nat.xor_lt_two_pow (by omega) (by omega)
  have h1 : (BitVec.ofInt 64 (a : Int)).toNat = a := by
    rw [BitVec.ofInt_natCast, BitVec.toNat_ofNat]; exact Nat.mod_eq_of_lt (by omega)
  have h2 : (BitVec.ofInt 64 (b : Int)).toNat = b := by
    rw [BitVec.ofInt_natCast, BitVec.toNat_ofNat]; exact Nat.mod_eq_of_lt (by omega)
  show IntKind.i64.wrap ((BitVec.ofInt 64 (a : Int) ^^^ BitVec.ofInt 64 (b : Int)).toNat : Int) = _
  rw [BitVec.toNat_xor, h1, h2, IntKind.wrap_i64]
  omega
theorem add_pow (m x : Nat) (hm : m < 64) (hx : x < 5) : wrap64 ((m : Int) + wrap64 (2 ^ x)) = ((m + 2 ^ x : Nat) : Int) := by
  have h : x = 0 ∨ x = 1 ∨ x = 2 ∨ x = 3 ∨ x = 4 := by omega
  unfold wrap64
  rcases h with h | h | h | h | h <;> subst h <;> simp <;> omega
theorem add_move (p k q x : Nat) (hq : q < 64) (hx : x < 5) : wrap64 ((q : Int) + wrap64 (((p : Int) / 2 ^ k).tmod 2 * 2 ^ x)) = ((q + bitN p k * 2 ^ x : Nat) : Int) := by
  have e : ((p : Int) / 2 ^ k).tmod 2 = ((bitN p k : Nat) : Int) := by
    have e1 : ((p : Int) / 2 ^ k) = ((p / 2 ^ k : Nat) : Int) := by push_cast; rfl
    rw [e1]
    unfold bitN
    generalize p / 2 ^ k = y
    rw [Int.tmod_eq_emod_of_nonneg (by omega)]
    omega
  obtain ⟨h1, h2⟩ := wrap_bit (bitN p k) x (bitN_two p k) hx
  rw [e, h1]
  generalize bitN p k * 2 ^ x = y at h2
  unfold wrap64
  omega
theorem own_bytes {w : World} {B : Nat} {v : Value} {l : List UInt8} (h : w.ownsRow B 5 1 v l.length (l.map vb)) (h0 : 0 < l.length) :
    ∃ g cap, v = .slice (some ⟨g, 0, none⟩) l.length cap ∧ ∀ j (hj : j < l.length), w.cell? ((⟨g, 0, none⟩ : Addr).add j) = some (.int .u8 (l[j].toNat : Int)) := by
  obtain ⟨h1, h2⟩ := h
  rcases h2 with ⟨rfl, h3⟩ | ⟨g, cap, cur, rfl, hg, hh, hn, hcap, hsz, htake⟩
  · omega
  · refine ⟨g, cap, rfl, fun j hj => ?_⟩
    have hplain : (⟨g, 0, none⟩ : Addr).add j = ⟨g, j, none⟩ := by unfold Addr.add; split <;> simp_all
    have : cur[j]? = some (.int .u8 (l[j].toNat : Int)) := by
      have e : (cur.toList.take (l.length * 1))[j]? = (l.map vb)[j]? := by rw [htake]
      rw [List.getElem?_take_of_lt (by omega), List.getElem?_map, List.getElem?_eq_getElem hj] at e
      rw [← Array.getElem?_toList, e]
      rfl
    rw [hplain]
    simp [World.cell?, hh, this]
set_option maxHeartbeats 4000000 in
set_option maxRecDepth 100000 in
theorem refTurn_any {s : ByteArray} {v1 v2 : Value} {os fs : List Nat} {n : Nat} {w : World} (h40 : s.size ≤ 40) (hn : varsOf s = n) (hn0 : n ≠ 0) (hlen : os.length = n) (hlt : ∀ x ∈ os, x < n) (hnd : os.Nodup)
    (hf : fs.length ≤ 1001) (hflt : ∀ x ∈ fs, x < n) (hfd : fs.Nodup) (hv1 : IntsAt w v1 (os.map (fun x : Nat => (x : Int)))) (hv2 : IntsAt w v2 (fs.map (fun x : Nat => (x : Int)))) :
    Calls Tryd.prog 51 #[.string s, v1, v2] w fun e w' => e = .returned (.string ⟨(pickL s (fun p => sumK (p ^^^ sumsOf fs) os n) s.size).toArray⟩) ∧ Below w.heap.size w w' := by
  obtain ⟨i0, hi, hz0, hz1, hz2⟩ := info_parts info5
  obtain ⟨A1, cap1, rfl, hc1⟩ := hv1
  obtain ⟨A2, cap2, rfl, hc2⟩ := hv2
  rw [List.length_map] at hc1 hc2
  rw [hlen] at hc1
  rw [List.length_map, List.length_map, hlen]
  have hlenk : Keep (os.length = n) := ⟨hlen⟩
  clear hlen
  have hn5 : n ≤ 5 := hn ▸ varsOf_le s
  have hsum : Keep (∀ k, k ≤ fs.length → sumsOf (fs.take k) < 32) := ⟨fun k hk => by
    have h5 : ∀ x ∈ fs, x < 5 := fun x hx => by have := hflt x hx; omega
    rw [← mask_sums fs h5 hfd k hk]
    exact (mask_take fs h5 k hk).1⟩
  have h5 : ∀ x ∈ os, x < 5 := fun x hx => by have := hlt x hx; omega
  have hmv : Keep (∀ p k, k ≤ n → sumK p os k < 32) := ⟨fun p k hk => by
    obtain ⟨h1, _, h3⟩ := mov_sum p os h5 hnd k (hlenk.out.symm ▸ hk)
    omega⟩
  have hmn : Keep (∀ p, sumK p os n < 2 ^ n) := ⟨fun p => by
    obtain ⟨_, _, h3⟩ := mov_sum p os h5 hnd n (by rw [hlenk.out]; exact Nat.le_refl _)
    rw [← h3]
    exact mov_lt p n os hlt n (by rw [hlenk.out]; exact Nat.le_refl _)⟩
  have hszk : Keep (s.size = 2 ^ n) := ⟨by have := (varsOf_size (s := s) (by rw [hn]; exact hn0)).1; rwa [hn] at this⟩
  clear h5
  go_enter Tryd.func51, Tryd.ntmps51
  go_wp2_with (go_at_call 19; refine (vars_any s h40 _).mono ?_; rintro e w ⟨rfl, rfl⟩; rw [hn])
  go_loopw [8, 9] (fun a i wr => ∃ k m : Nat, k ≤ fs.length ∧ i = .int .i64 k ∧ a = .int .i64 m ∧ Keep (m = sumsOf (fs.take k)) ∧ Below w.heap.size w wr) (fun _ i _ => fs.length - (intOf i).toNat)
  case atStart => exact ⟨0, 0, by omega, rfl, rfl, ⟨rfl⟩, Below.refl _ _⟩
  case round =>
    obtain ⟨k, m, hk, rfl, rfl, hm, hbw⟩ := hrel
    by_cases hkn : k < fs.length
    · obtain ⟨g, rfl, hg⟩ := hc2 k hkn
      have hgr := cell_below hg hbw
      rw [getD_cast] at hgr
      have hx := hflt _ (getn hkn)
      obtain ⟨x, hxe⟩ : ∃ x, Keep (fs.getD k 0 = x) := ⟨_, ⟨rfl⟩⟩
      rw [hxe.out] at hgr hx
      have hm32 : m < 32 := by rw [hm.out]; exact hsum.out k hk
      have hadd := add_pow m x (by omega) (by omega)
      go_wp2
      exact ⟨⟨k + 1, m + 2 ^ x, by omega, by go_num, by first | rfl | rw [hadd], ⟨by rw [take_push hkn, sums_push, hm.out, hxe.out]⟩, hbw⟩, by simp [intOf]; omega⟩
    · have : k = fs.length := by omega
      subst this
      rw [List.take_length] at hm
      have hm32 : m < 32 := by rw [hm.out]; have := hsum.out fs.length (Nat.le_refl _); rwa [List.take_length] at this
      go_wp2
      go_loopw [10, 11] (fun v i wr => ∃ p : Nat, p ≤ s.size ∧ i = .int .i64 p ∧ wr.ownsRow w.heap.size 5 1 v (pickL s (fun p => sumK (p ^^^ m) os n) p).length ((pickL s (fun p => sumK (p ^^^ m) os n) p).map vb) ∧ Below w.heap.size w wr) (fun _ i _ => s.size - (intOf i).toNat)
      case atStart => exact ⟨0, by omega, rfl, World.ownsRow_nil _ _ _ _, hbw⟩
      case round =>
        clear hbw
        obtain ⟨p, hp, rfl, hown, hbw⟩ := hrel
        by_cases hps : p < s.size
        · have hxor : bits .xor .i64 (p : Int) (m : Int) = ((p ^^^ m : Nat) : Int) := xor_i64 p m (by omega) (by omega)
          go_wp2
          go_loopw [12, 13] (fun a i w4 => ∃ k q : Nat, k ≤ n ∧ i = .int .i64 k ∧ a = .int .i64 q ∧ Keep (q = sumK (p ^^^ m) os k) ∧ ∃ d, w4 = wr.drewN d) (fun _ i _ => n - (intOf i).toNat)
          case atStart => exact ⟨0, 0, by omega, rfl, rfl, ⟨rfl⟩, 0, rfl⟩
          case round =>
            obtain ⟨k, q, hk, rfl, rfl, hq, d, rfl⟩ := hrel
            by_cases hkn : k < n
            · obtain ⟨g, rfl, hg⟩ := hc1 k hkn
              have hgr := cell_below hg hbw
              rw [getD_cast] at hgr
              have hx := hlt _ (getn (os := os) (k := k) (hlenk.out.symm ▸ hkn))
              obtain ⟨x, hxe⟩ : ∃ x, Keep (os.getD k 0 = x) := ⟨_, ⟨rfl⟩⟩
              rw [hxe.out] at hgr hx
              have hq32 : q < 32 := by rw [hq.out]; exact hmv.out _ k hk
              have hadd := add_move (p ^^^ m) k q x (by omega) (by omega)
              go_wp2
              go_quiet (fail)
              go_wp2
              exact ⟨⟨k + 1, q + bitN (p ^^^ m) k * 2 ^ x, by omega, by go_num, by first | rfl | rw [hadd], ⟨by rw [sumK, hxe.out, hq.out]⟩, _, rfl⟩, by simp [intOf]; omega⟩
            · have : n = k := by omega
              subst this
              have hqs : q < s.size := by rw [hszk.out, hq.out]; exact hmn.out _
              have hownd := own_below hown (below_drewN (Below.refl wr.heap.size wr) d)
              have hbz : w.heap.size ≤ wr.heap.size := hbw.size
              go_wp2_with (at_builtin; go_loud (
                refine wpList_append_own _ rfl _ _ 72 rfl w.heap.size 5 i0 (.int .u8 0) 1 1 ty72 hi hz0 hz1 hz2 rfl (by decide) _ _ _ rfl (hownd.alloc _) ⟨wr.heap.size, 0, none⟩ 1 1 [.int .u8 (s[q].toNat : Nat)] rfl rfl (cell_one_new _ _ _) (fun x hx => by simp at hx; subst hx; rfl) (by rw [pick_len]; unfold maxLen; omega) (by rw [pick_len]; omega) (by simp; omega) ?_
                intro v' w3 hown' hgrow3 hnil3
                have hbw3 : Below w.heap.size w w3 := Below.grown ((below_drewN hbw d).alloc (by simp; omega) _) hgrow3 (by simp; omega) (fun j hj => by have := (hownd.lt _ hj).1; omega)
                have X : Keep (w3.ownsRow w.heap.size 5 1 v' ((pickL s (fun p => sumK (p ^^^ m) os n) p).length + 1) ((pickL s (fun p => sumK (p ^^^ m) os n) p).map vb ++ [.int .u8 (s[q].toNat : Nat)]) ∧ Below w.heap.size w w3) := ⟨⟨hown', hbw3⟩⟩
                clear hown' hgrow3 hnil3 hbw3))
              obtain ⟨q1, q2⟩ := X.out
              refine ⟨⟨p + 1, by omega, by go_num, ?_, q2⟩, by simp [intOf]; omega⟩
              have e : s.data.toList.getD (sumK (p ^^^ m) os n) 0 = s[q] := by rw [← hq.out]; exact getD_at hqs
              rw [pick_push, e, List.length_append, List.map_append]
              exact q1
        · have : p = s.size := by omega
          subst this
          obtain ⟨g, cap, rfl, hcell⟩ := own_bytes hown (by rw [pick_len]; rw [hszk.out]; exact Nat.two_pow_pos _)
          have hconv := run_convert_bytes_back (P := Tryd.prog) wr 72 9 5 ⟨g, 0, none⟩ cap _ ty72 ty5 ty9 hcell
          go_wp2
          go_ret
          exact ⟨by rw [hm.out]; rfl, hbw⟩
end Go.Proofs.YtioaaigbpfdjmaaDoor

import Derived.Test.YtioaaigbpfdjmaaDoorTurn
set_option linter.unusedSimpArgs false
set_option linter.unusedVariables false
namespace Go.Proofs.YtioaaigbpfdjmaaDoor
open Go Go.Proofs Go.RowKit
theorem row_cells {w : World} {B G n : Nat} {xs : List Value} (h : w.ownsRow B 5 1 (.slice (some ⟨G, 0, none⟩) n n) n xs) (hl : xs.length = n) :
    ∀ j (hj : j < xs.length), w.cell? ⟨G, j, none⟩ = some xs[j] ∧ w.frozen? ⟨G, j, none⟩ = false := by
  intro j hj
  obtain ⟨h1, h2⟩ := h
  rcases h2 with ⟨h3, _⟩ | ⟨g, cap, cur, hv, hg, hh, hn, hcap, hsz, htake⟩
  · cases h3
  · injection hv with hv1 hv2 hv3
    injection hv1 with hv1
    injection hv1 with hv1
    subst hv1
    have : cur[j]? = some xs[j] := by
      have e : (cur.toList.take (n * 1))[j]? = xs[j]? := by rw [htake]
      rw [List.getElem?_take_of_lt (by omega), List.getElem?_eq_getElem hj] at e
      rw [← Array.getElem?_toList, e]
    constructor
    · simp [World.cell?, hh, this]
    · simp [World.frozen?, hh]
theorem made_zero (n : Nat) : (madeCells (Value.int .u8 0).cells (n * 1)).toList.length = n ∧ ∀ j (hj : j < (madeCells (Value.int .u8 0).cells (n * 1)).toList.length), (madeCells (Value.int .u8 0).cells (n * 1)).toList[j] = .int .u8 0 := by
  have e : (Value.int .u8 0).cells = #[.int .u8 0] := rfl
  rw [e]
  refine ⟨by simp [size_madeCells], fun j hj => ?_⟩
  simp [madeCells, Nat.mod_one]
/-- The cells of the text that is being written: the first p are done. -/
def TextAt (w : World) (G N p : Nat) (l : List UInt8) : Prop := ∀ j, j < N → w.cell? ⟨G, j, none⟩ = some (.int .u8 (if j < p then ((l.getD j 0).toNat : Int) else 0)) ∧ w.frozen? ⟨G, j, none⟩ = false
theorem text_start {w : World} {B G n : Nat} {l : List UInt8} (h : w.ownsRow B 5 1 (.slice (some ⟨G, 0, none⟩) n n) n (madeCells (Value.int .u8 0).cells (n * 1)).toList) : TextAt w G n 0 l := by
  intro j hj
  obtain ⟨m1, m2⟩ := made_zero n
  have hj' : j < (madeCells (Value.int .u8 0).cells (n * 1)).toList.length := by omega
  obtain ⟨c1, c2⟩ := row_cells h m1 j hj'
  rw [m2 j hj'] at c1
  exact ⟨by rw [c1]; simp, c2⟩
theorem text_below {w w' : World} {G N p : Nat} {l : List UInt8} (h : TextAt w G N p l) (b : Below w.heap.size w w') : TextAt w' G N p l := by
  intro j hj
  obtain ⟨c1, c2⟩ := h j hj
  have h1 : G < w.heap.size := by
    rcases Nat.lt_or_ge G w.heap.size with h' | h'
    · exact h'
    · simp [World.cell?, Array.getElem?_eq_none h'] at c1
  exact ⟨by rw [b.cell (p := ⟨G, j, none⟩) h1]; exact c1, by rw [b.frozen (p := ⟨G, j, none⟩) h1]; exact c2⟩
theorem text_set {w : World} {G N p : Nat} {l : List UInt8} (h : TextAt w G N p l) (hp : p < N) {b : UInt8} (hb : l.getD p 0 = b) : TextAt (w.setCell ⟨G, p, none⟩ (.int .u8 (b.toNat : Int))) G N (p + 1) l := by
  intro j hj
  obtain ⟨c1, c2⟩ := h j hj
  obtain ⟨d1, d2⟩ := h p hp
  by_cases hjp : j = p
  · subst hjp
    refine ⟨?_, by go_simp⟩
    have e : (if j < j + 1 then ((l.getD j 0).toNat : Int) else 0) = (b.toNat : Int) := by rw [if_pos (Nat.lt_succ_self j), hb]
    rw [e]
    go_simp
  · have e : (if j < p + 1 then ((l.getD j 0).toNat : Int) else 0) = (if j < p then ((l.getD j 0).toNat : Int) else 0) := by
      by_cases h : j < p
      · rw [if_pos h, if_pos (by omega)]
      · rw [if_neg h, if_neg (by omega)]
    rw [e]
    have hne : ¬ p = j := fun h => hjp h.symm
    generalize (if j < p then ((l.getD j 0).toNat : Int) else 0) = y at c1 ⊢
    exact ⟨by go_simp, by go_simp⟩
theorem text_done {w : World} {G N : Nat} {l : List UInt8} (h : TextAt w G N N l) (hl : l.length = N) : ∀ j (hj : j < l.length), w.cell? ((⟨G, 0, none⟩ : Addr).add j) = some (.int .u8 (l[j].toNat : Int)) := by
  intro j hj
  have hplain : (⟨G, 0, none⟩ : Addr).add j = ⟨G, j, none⟩ := by unfold Addr.add; split <;> simp_all
  obtain ⟨c1, _⟩ := h j (by omega)
  rw [hplain, c1, if_pos (by omega), List.getD_eq_getElem?_getD, List.getElem?_eq_getElem hj]
  rfl
theorem pick_get (s : ByteArray) (g : Nat → Nat) {N p : Nat} (h : p < N) : (pickL s g N).getD p 0 = s.data.toList.getD (g p) 0 := by
  have hl : p < (pickL s g N).length := by rw [pick_len]; exact h
  rw [List.getD_eq_getElem?_getD, List.getElem?_eq_getElem hl]
  simp [pickL]
set_option maxHeartbeats 4000000 in
set_option maxRecDepth 100000 in
theorem turn_yes {s : ByteArray} {v1 v2 : Value} {os fs : List Nat} {w : World} {n N : Nat} (h40 : s.size ≤ 40) (hl2 : fs.length ≤ 1001) (hv1 : IntsAt w v1 (os.map (fun x : Nat => (x : Int)))) (hv2 : IntsAt w v2 (fs.map (fun x : Nat => (x : Int)))) (hn5 : n ≤ 5) (hN : Keep (N = 2 ^ n)) (hN32 : N ≤ 32) (hn : Keep (varsOf s = n))
    (h0 : n ≠ 0) (hlen : os.length = n) (hD1 : diffB (os.map (fun x : Nat => (x : Int))) n = true) (hD2 : diffB (fs.map (fun x : Nat => (x : Int))) n = true) (hlt : ∀ x ∈ os, x < n) (hflt : ∀ x ∈ fs, x < n) :
    Calls Tryd.prog 49 #[.string s, v1, v2] w fun e w' => e = .returned (.tuple #[.string ⟨(pickL s (fun p => movK (p ^^^ maskOf fs) os n) N).toArray⟩, .int .i64 0]) ∧ Below w.heap.size w w' := by
  obtain ⟨i0, hi, hz0, hz1, hz2⟩ := info_parts info5
  have hd : decide (n ≠ 0) = true := decide_eq_true h0
  have hsz : Keep (s.size = N) := ⟨by
    have := (varsOf_size (s := s) (by rw [hn.out]; exact h0)).1
    rw [hn.out] at this
    rw [this, hN.out]⟩
  have hmask : Keep (∀ k, k ≤ fs.length → maskOf (fs.take k) < 32) := ⟨fun k hk => (mask_take fs (fun x hx => by have := hflt x hx; omega) k hk).1⟩
  have hmv : Keep (∀ p, movK p os n < N) := ⟨fun p => by rw [hN.out]; exact mov_lt p n os hlt n (by omega)⟩
  have e1 : ∃ A1 cap1, v1 = .slice A1 n cap1 := by obtain ⟨A, c, h, _⟩ := hv1; exact ⟨A, c, by rw [h, List.length_map, hlen]⟩
  obtain ⟨A1, cap1, rfl⟩ := e1
  have hv2' := hv2
  obtain ⟨A2, cap2, rfl, hc2⟩ := hv2'
  rw [List.length_map] at hc2 hv2 ⊢
  have hlenk : Keep (os.length = n) := ⟨hlen⟩
  have hl1 : (os.map (fun x : Nat => (x : Int))).length ≤ 1001 := by rw [List.length_map]; omega
  have hl2' : (fs.map (fun x : Nat => (x : Int))).length ≤ 1001 := by rw [List.length_map]; omega
  have hv1k := hv1
  clear h0 hlen
  go_enter Tryd.func49, Tryd.ntmps49
  go_wp2_with (first
    | (go_at_call 58; refine (table_any s h40 _).mono ?_; rintro e w1 ⟨⟨O, Z, hO, hZ, rfl, hOZ⟩, hb1⟩; rw [hn.out, hd])
    | (go_at_call 89; refine (different_any hn5 (ints_below hv2 hbw2) hl2').mono ?_; rintro e w3 ⟨rfl, hb3⟩
       have c0 := (hb3.cell (p := ⟨w1.heap.size, 0, none⟩) hb12).trans c0
       have c1 := (hb3.cell (p := ⟨w1.heap.size, 1, none⟩) hb12).trans c1
       have c2 := (hb3.cell (p := ⟨w1.heap.size, 2, none⟩) hb12).trans c2
       have hbw3 : Below w.heap.size w w3 := below_trans hbw2 hb3 hbw2.size
       rw [hD2]; clear hbw2 hb3)
    | (go_at_call 89; refine (different_any hn5 (ints_below hv1 (hb1.alloc hb1.size _)) hl1).mono ?_; rintro e w2 ⟨rfl, hb2⟩
       have c0 : w2.cell? ⟨w1.heap.size, 0, none⟩ = some (.int .i64 n) := by rw [hb2.cell (p := ⟨w1.heap.size, 0, none⟩) (by simp)]; go_simp
       have c1 : w2.cell? ⟨w1.heap.size, 1, none⟩ = some (.int .u32 O) := by rw [hb2.cell (p := ⟨w1.heap.size, 1, none⟩) (by simp)]; go_simp
       have c2 : w2.cell? ⟨w1.heap.size, 2, none⟩ = some (.int .u32 Z) := by rw [hb2.cell (p := ⟨w1.heap.size, 2, none⟩) (by simp)]; go_simp
       have hb12 : w1.heap.size < w2.heap.size := by have := hb2.size; simp at this; omega
       have hbw2 : Below w.heap.size w w2 := below_trans (hb1.alloc hb1.size _) hb2 (by simp; exact Nat.le_succ_of_le hb1.size)
       rw [hD1]; clear hv1 hb2))
  go_loop [10, 45] (fun a i => ∃ k m : Nat, k ≤ fs.length ∧ i = .int .i64 k ∧ a = .int .i64 m ∧ Keep (m = maskOf (fs.take k))) (fun _ i => fs.length - (intOf i).toNat)
  case atStart => exact ⟨0, 0, by omega, rfl, rfl, ⟨rfl⟩⟩
  case round =>
    obtain ⟨k, m, hk, rfl, rfl, hm⟩ := hrel
    by_cases hkn : k < fs.length
    · obtain ⟨g, rfl, hg⟩ := hc2 k hkn
      have hgr := cell_below hg hbw3
      rw [getD_cast] at hgr
      have hx := hflt _ (getn hkn)
      obtain ⟨x, hxe⟩ : ∃ x, Keep (fs.getD k 0 = x) := ⟨_, ⟨rfl⟩⟩
      rw [hxe.out] at hgr hx
      have hm32 : m < 32 := by rw [hm.out]; exact hmask.out k hk
      have hor := (or_bit m x hm32 (by omega)).1
      go_wp2
      exact ⟨⟨k + 1, m ||| 2 ^ x, by omega, by go_num, by first | rfl | rw [hor], ⟨by rw [take_push hkn, mask_push, hm.out, hxe.out]⟩⟩, by simp [intOf]; omega⟩
    · have : k = fs.length := by omega
      subst this
      rw [List.take_length] at hm
      have hm32 : m < 32 := by rw [hm.out]; have := hmask.out fs.length (Nat.le_refl _); rwa [List.take_length] at this
      have hz3 : w.heap.size ≤ w3.heap.size := hbw3.size
      go_wp2_with (first
        | (go_at_call 75; refine (tsize_any n O Z N hn5 hN.out _).mono ?_; rintro e w4 ⟨rfl, hb4⟩)
        | (at_make; go_loud (
           refine wpList_make_full _ rfl _ _ 72 rfl w.heap.size 5 i0 (.int .u8 0) 1 ty72 hi hz0 hz1 .i64 .i64 (N : Int) (N : Int) N rfl rfl rfl rfl (by rw [hz2]; omega) (by unfold maxLen; omega) (Nat.le_trans hz3 hb4.size) ?_
           intro w5 hown5 hgrow5
           have hbw4 := below_trans hbw3 hb4 hz3
           have hbw5 : Below w.heap.size w w5 := Below.grown hbw4 hgrow5 hbw4.size (by simp)
           have hG : w.heap.size ≤ w4.heap.size := hbw4.size
           have hGl : Keep (TextAt w5 w4.heap.size N 0 (pickL s (fun p => movK (p ^^^ m) os n) N)) := ⟨text_start hown5⟩
           obtain ⟨G, hGe⟩ : ∃ G, G = w4.heap.size := ⟨_, rfl⟩
           rw [← hGe] at hG hGl ⊢
           clear hown5 hgrow5 hbw4 hb4 hGe)))
      go_loopw [59] (fun i wr => ∃ p : Nat, p ≤ N ∧ i = .int .i64 p ∧ TextAt wr G N p (pickL s (fun p => movK (p ^^^ m) os n) N) ∧ Below w.heap.size w wr) (fun i _ => N - (intOf i).toNat)
      case atStart => exact ⟨0, by omega, rfl, hGl.out, hbw5⟩
      case round =>
        clear hbw3 hbw5 hGl
        obtain ⟨p, hp, rfl, htext, hbw⟩ := hrel
        by_cases hpN : p < N
        · have hxor : bits .xor .i64 (p : Int) (m : Int) = ((p ^^^ m : Nat) : Int) := xor_i64 p m (by omega) (by omega)
          have hpm : p ^^^ m < 32 := Nat.xor_lt_two_pow (n := 5) (by omega) hm32
          have htextk : Keep (TextAt wr G N p (pickL s (fun p => movK (p ^^^ m) os n) N)) := ⟨htext⟩
          clear htext
          go_wp2_with (go_at_call 90; go_loud (
             refine (moved_any hn5 hlenk.out hlt hpm (ints_below hv1k hbw)).mono ?_; rintro e w6 ⟨rfl, hb6⟩
             obtain ⟨t1, t2⟩ := (text_below htextk.out hb6) p hpN
             have htext6 : Keep (TextAt w6 G N p (pickL s (fun p => movK (p ^^^ m) os n) N)) := ⟨text_below htextk.out hb6⟩
             have hbw6 : Below w.heap.size w w6 := below_trans hbw hb6 hbw.size
             obtain ⟨q, hq⟩ : ∃ q, Keep (movK (p ^^^ m) os n = q) := ⟨_, ⟨rfl⟩⟩
             rw [hq.out]
             have hqs : q < s.size := by rw [← hq.out, hsz.out]; exact hmv.out _
             clear hb6 hbw htextk))
          refine ⟨⟨p + 1, by omega, by go_num, text_set htext6.out hpN (by rw [pick_get s _ hpN, hq.out]; exact getD_at hqs), below_set hbw6 (by omega) _⟩, by simp [intOf]; omega⟩
        · have : p = N := by omega
          subst this
          have hconv := run_convert_bytes_back (P := Tryd.prog) wr 72 9 5 ⟨G, 0, none⟩ p _ ty72 ty5 ty9 (text_done htext (pick_len _ _ _))
          rw [pick_len] at hconv
          clear htext
          go_wp2
          go_ret2
          exact ⟨by rw [hm.out]; rfl, hbw⟩
end Go.Proofs.YtioaaigbpfdjmaaDoor

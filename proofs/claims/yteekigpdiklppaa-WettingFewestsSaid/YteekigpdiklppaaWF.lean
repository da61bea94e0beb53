import Derived.Test.YteekigpdiklppaaWThrAll
import Derived.Laws.OwnMore
set_option linter.unusedSimpArgs false
set_option linter.unusedVariables false
namespace Go.Proofs.Yteekigpdiklppaa
open Go Go.Proofs Go.RowKit Go.Seq
attribute [local go_sem] Oper.semAt_some
/-! Copies of lists that a law makes. -/
def IntsC (w : World) (v : Value) (zs : List Int) : Prop := (v = .slice none 0 0 ∧ zs = []) ∨ ∃ g cap, v = .slice (some ⟨g, 0, none⟩) zs.length cap ∧ zs.length ≤ cap ∧ ∀ i, i < zs.length → w.cell? ⟨g, i, none⟩ = some (vz (zs.getD i 0))
theorem intsC_below {w w' : World} {v : Value} {zs : List Int} (h : IntsC w v zs) (b : Below w.heap.size w w') : IntsC w' v zs := by
  rcases h with h | ⟨g, cap, h1, h2, h3⟩
  · exact .inl h
  · exact .inr ⟨g, cap, h1, h2, fun i hi => cell_below (h3 i hi) b⟩
theorem row_intsC {w : World} {B : Nat} {v : Value} {l : List Int} (h : w.ownsRow B 3 1 v l.length (l.map vz)) : IntsC w v l := by
  obtain ⟨h1, h2⟩ := h
  rcases h2 with ⟨rfl, h0⟩ | ⟨g, cap, cur, rfl, hg, hh, hn, hcap, hsz, htake⟩
  · exact .inl ⟨rfl, List.length_eq_zero_iff.1 h0⟩
  · refine .inr ⟨g, cap, rfl, hn, fun k hk => ?_⟩
    have : cur[k]? = some (.int .i64 (l.getD k 0)) := by
      have e : (cur.toList.take (l.length * 1))[k]? = (l.map vz)[k]? := by rw [htake]
      rw [List.getElem?_take_of_lt (by omega), List.getElem?_map, List.getElem?_eq_getElem hk] at e
      rw [← Array.getElem?_toList, e]
      simp [vz, List.getD, hk]
    simp [World.cell?, hh, this, vz]
theorem cellsC {w : World} {g : Nat} {zs : List Int} (hc : ∀ i, i < zs.length → w.cell? ⟨g, i, none⟩ = some (vz (zs.getD i 0))) :
    ∀ j u, (zs.map vz)[j]? = some u → w.cell? ((⟨g, 0, none⟩ : Addr).add j) = some u := by
  intro j u hj
  have hjl : j < zs.length := by
    have := (List.getElem?_eq_some_iff.1 hj).1
    simpa using this
  have hplain : (⟨g, 0, none⟩ : Addr).add j = ⟨g, j, none⟩ := by unfold Addr.add; split <;> simp_all
  rw [hplain, hc j hjl, ← hj, List.getElem?_map, List.getElem?_eq_getElem hjl, List.getD_eq_getElem?_getD, List.getElem?_eq_getElem hjl]
  rfl
theorem info3_parts : ∃ i, Try.prog.info? 3 = some i ∧ i.zero = some (.int .i64 0) ∧ i.size = 1 ∧ i.bytes = 8 := by
  have h := info3
  cases hI : Try.prog.info? 3 with
  | none => rw [hI] at h; cases h
  | some i =>
    rw [hI] at h
    simp only [Option.map_some, Option.some.injEq, Prod.mk.injEq] at h
    exact ⟨i, rfl, h.1, h.2.1, h.2.2⟩
set_option maxHeartbeats 1000000 in
set_option maxRecDepth 100000 in
theorem list_own {v : Value} {zs : List Int} {w : World} (hv : IntsC w v zs) (hl : zs.length ≤ 13) :
    Calls Try.prog 18 #[v] w fun e w' => ∃ v', e = .returned v' ∧ w'.ownsRow w.heap.size 3 1 v' zs.length (zs.map vz) ∧ Below w.heap.size w w' := by
  obtain ⟨i0, hi, hz0, hz1, hz2⟩ := info3_parts
  rcases hv with ⟨rfl, rfl⟩ | ⟨g, cap, rfl, hcap, hc⟩
  · go_enter Try.func18, Try.ntmps18
    go_wp2
    go_ret
    exact ⟨_, rfl, World.ownsRow_nil _ _ _ _, Below.refl _ _⟩
  · have hcs := cellsC hc
    clear hc
    go_enter Try.func18, Try.ntmps18
    go_wp2_with (at_builtin; go_loud (
      refine wpList_append_own _ rfl _ _ 23 rfl w.heap.size 3 i0 (.int .i64 0) 1 8 ty24 hi hz0 hz1 hz2 rfl (by decide) _ 0 [] rfl (World.ownsRow_nil _ _ _ _) ⟨g, 0, none⟩ zs.length cap (zs.map vz) rfl (by simp) hcs (fun x hx => by rw [List.mem_map] at hx; obtain ⟨_, _, rfl⟩ := hx; rfl) (by unfold maxLen; omega) (by omega) (by simp) ?_
      intro v' w3 hown' hgrow3 hnil3
      have hbw3 : Below w.heap.size w w3 := Below.grown (Below.refl _ _) hgrow3 (by simp) (fun k hk => by cases hk)))
    go_ret
    refine ⟨_, rfl, ?_, hbw3⟩
    simpa using hown'
def PairsC (w : World) (v : Value) (ps : Pts) : Prop := (v = .slice none 0 0 ∧ ps = []) ∨ ∃ g cap, v = .slice (some ⟨g, 0, none⟩) ps.length cap ∧ ps.length ≤ cap ∧ ∀ j u, (enc2 ps)[j]? = some u → w.cell? ((⟨g, 0, none⟩ : Addr).add j) = some u
theorem row_pairsC {w : World} {B : Nat} {v : Value} {l : Pts} (h : w.ownsRow B 63 2 v l.length (enc2 l)) : PairsC w v l := by
  obtain ⟨h1, h2⟩ := h
  rcases h2 with ⟨rfl, h0⟩ | ⟨g, cap, cur, rfl, hg, hh, hn, hcap, hsz, htake⟩
  · exact .inl ⟨rfl, List.length_eq_zero_iff.1 h0⟩
  · refine .inr ⟨g, cap, rfl, hn, fun j u hj => ?_⟩
    have hlt : j < l.length * 2 := by
      have := (List.getElem?_eq_some_iff.1 hj).1
      rw [enc2_len] at this; exact this
    have e : (cur.toList.take (l.length * 2))[j]? = (enc2 l)[j]? := by rw [htake]
    rw [List.getElem?_take_of_lt hlt, hj] at e
    have hplain : (⟨g, 0, none⟩ : Addr).add j = ⟨g, j, none⟩ := by unfold Addr.add; split <;> simp_all
    rw [hplain]
    rw [Array.getElem?_toList] at e
    simp [World.cell?, hh, e]
theorem pairsC_below {w w' : World} {v : Value} {ps : Pts} (h : PairsC w v ps) (b : Below w.heap.size w w') : PairsC w' v ps := by
  rcases h with h | ⟨g, cap, h1, h2, h3⟩
  · exact .inl h
  · exact .inr ⟨g, cap, h1, h2, fun j u hj => by
      have hplain : (⟨g, 0, none⟩ : Addr).add j = ⟨g, j, none⟩ := by unfold Addr.add; split <;> simp_all
      have h := h3 j u hj
      rw [hplain] at h ⊢
      exact (b.cell (cell_lt h)).trans h⟩
theorem info63_parts : ∃ i, Try.prog.info? 63 = some i ∧ i.zero = some (.agg #[.int .i64 0, .int .i64 0]) ∧ i.size = 2 ∧ i.bytes = 16 := by
  have h := info63
  cases hI : Try.prog.info? 63 with
  | none => rw [hI] at h; cases h
  | some i =>
    rw [hI] at h
    simp only [Option.map_some, Option.some.injEq, Prod.mk.injEq] at h
    exact ⟨i, rfl, h.1, h.2.1, h.2.2⟩
theorem enc2_one (ps : Pts) : ∀ u ∈ enc2 ps, u.oneCell' = true := by
  intro u hu
  unfold enc2 at hu
  rw [List.mem_flatMap] at hu
  obtain ⟨p, _, hp⟩ := hu
  simp only [List.mem_cons, List.not_mem_nil, or_false] at hp
  rcases hp with rfl | rfl <;> rfl
set_option maxHeartbeats 1000000 in
set_option maxRecDepth 100000 in
theorem pairs_own {v : Value} {ps : Pts} {w : World} (hv : PairsC w v ps) (hl : ps.length ≤ 80) :
    Calls Try.prog 17 #[v] w fun e w' => ∃ v', e = .returned v' ∧ w'.ownsRow w.heap.size 63 2 v' ps.length (enc2 ps) ∧ Below w.heap.size w w' := by
  obtain ⟨i0, hi, hz0, hz1, hz2⟩ := info63_parts
  rcases hv with ⟨rfl, rfl⟩ | ⟨g, cap, rfl, hcap, hc⟩
  · go_enter Try.func17, Try.ntmps17
    go_wp2
    go_ret
    exact ⟨_, rfl, World.ownsRow_nil _ _ _ _, Below.refl _ _⟩
  · have h1 := enc2_one ps
    have h2 := enc2_len ps
    go_enter Try.func17, Try.ntmps17
    go_wp2_with (at_builtin; go_loud (
      refine wpList_append_own _ rfl _ _ 22 rfl w.heap.size 63 i0 (.agg #[.int .i64 0, .int .i64 0]) 2 16 ty22 hi hz0 hz1 hz2 rfl (by decide) _ 0 [] rfl (World.ownsRow_nil _ _ _ _) ⟨g, 0, none⟩ ps.length cap (enc2 ps) rfl (by rw [h2]) hc h1 (by unfold maxLen; omega) (by omega) (by simp) ?_
      intro v' w3 hown' hgrow3 hnil3
      have hbw3 : Below w.heap.size w w3 := Below.grown (Below.refl _ _) hgrow3 (by simp) (fun k hk => by cases hk)))
    go_ret
    refine ⟨_, rfl, ?_, hbw3⟩
    simpa using hown'
end Go.Proofs.Yteekigpdiklppaa
set_option linter.unusedSimpArgs false
set_option linter.unusedVariables false
namespace Go.Proofs.Yteekigpdiklppaa
open Go Go.Proofs Go.RowKit Go.Seq
attribute [local go_sem] Oper.semAt_some
/-- What the first places of a set force, as the reference gathers it. -/
def fdTo (adj : Nat → Nat → Bool) (s : Nat → Bool) : Nat → Nat → Bool
  | 0, _ => false
  | k + 1, j => fdTo adj s k j || (s k && decide (sz (fun u => adj k u && !s u) = 1) && (adj k j && !s j))
set_option maxHeartbeats 2000000 in
set_option maxRecDepth 100000 in
theorem forced_any {N : Nat} {E : Pts} {s : Nat → Bool} {n G : Nat} {w : World} (hN : N ≤ 12) (hn : num s = n) (hG : NumsAt w G N 3 (nearOf E)) :
    Calls Try.prog 65 #[.slice (some ⟨G, 0, none⟩) N N, .int .i64 (n : Nat)] w fun e w' => e = .returned (.int .i64 (num (fdTo (adjOf E) s N) : Nat)) ∧ Below w.heap.size w w' := by
  have hGk := Keep.mk hG
  have hnl : n < 4096 := by rw [← hn]; exact num_lt s
  have hbits := fun k => num_bit s k
  have q54 : Keep (∀ (i : Nat) (d l : Nat), num (fun j => adjOf E i j && !s j) = d → sz (fun j => adjOf E i j && !s j) = l → _) := ⟨fun i d l h1 h2 => fun W => count_any h1 h2 W⟩
  have hdf := Keep.mk (fun i => num_diff (adjOf E i) s)
  rw [hn] at hbits hdf
  obtain ⟨Q, hQ⟩ : ∃ Q : Nat → Nat, Q = fun k => num (fdTo (adjOf E) s k) := ⟨_, rfl⟩
  have hQ0 : Q 0 = 0 := by rw [hQ]; exact num_none.2 (fun j hj => rfl)
  have hQs : Keep (∀ k, k < 12 → (s k = false → Q (k + 1) = Q k) ∧ (sz (fun u => adjOf E k u && !s u) ≠ 1 → Q (k + 1) = Q k) ∧ (s k = true → sz (fun u => adjOf E k u && !s u) = 1 → bits .or .i64 (Q k : Int) ((num fun j => adjOf E k j && !s j : Nat) : Int) = (Q (k + 1) : Int))) := ⟨fun k hk => by
    rw [hQ]
    refine ⟨fun h => num_ext fun j hj => ?_, fun h => num_ext fun j hj => ?_, fun h1 h2 => ?_⟩
    · show (fdTo (adjOf E) s k j || _) = _
      rw [h]; simp
    · show (fdTo (adjOf E) s k j || _) = _
      rw [decide_eq_false h]; simp
    · rw [or_num]
      congr 1
      refine num_ext fun j hj => ?_
      show _ = (fdTo (adjOf E) s k j || _)
      rw [h1, decide_eq_true h2]; simp⟩
  rw [show num (fdTo (adjOf E) s N) = Q N by rw [hQ]]
  clear hG hn hQ
  go_enter Try.func65, Try.ntmps65
  go_wp2
  go_loopw [5, 6] (fun a i wr => ∃ k : Nat, k ≤ N ∧ a = .int .i64 (Q k : Nat) ∧ i = .int .i64 k ∧ Keep (Below w.heap.size w wr)) (fun _ i _ => N - (intOf i).toNat)
  case atStart => exact ⟨0, by omega, by rw [hQ0]; rfl, rfl, ⟨Below.refl _ _⟩⟩
  case round =>
    obtain ⟨k, hk, rfl, rfl, hI⟩ := hrel
    by_cases hlt : k < N
    · have hw1 : IntKind.i64.wrap ((k : Int) + 1) = (k : Int) + 1 := IntWalk.i64_in _ (by omega)
      have hlt' : (k : Int) < (N : Int) := by omega
      have hk0 : ¬ (k : Int) < 0 := by omega
      have hst := hQs.out k (by omega)
      have hsh := shr_i64 n k hnl
      obtain ⟨q, hq⟩ : ∃ q, n / 2 ^ k = q := ⟨_, rfl⟩
      rw [hq] at hsh
      have hb := bit_mod n k
      rw [hq, hbits k] at hb
      obtain ⟨p, hp⟩ : ∃ p, q % 2 = p := ⟨_, rfl⟩
      have hrem : (q : Int).tmod 2 = (p : Int) := by rw [show (2 : Int) = ((2 : Nat) : Int) from rfl, IntWalk.up_tmod rfl rfl, hp]
      rw [hp] at hb
      have hbk := Keep.mk hb
      clear hb hp hq
      obtain ⟨f, hf⟩ : ∃ f, nearOf E k = f := ⟨_, rfl⟩
      obtain ⟨d, hd⟩ : ∃ d, num (fun j => adjOf E k j && !s j) = d := ⟨_, rfl⟩
      obtain ⟨l, hl⟩ : ∃ l, sz (fun j => adjOf E k j && !s j) = l := ⟨_, rfl⟩
      have q := q54.out k d l hd hl
      have dd : bits .andNot .i64 (f : Int) (n : Int) = (d : Int) := by
        have := hdf.out k
        rw [hd] at this; rw [← hf]; exact this
      have hnx := hGk.out.below hI.out hGk.out.lt
      have cG : wr.cell? ⟨G, k, none⟩ = some (.int .i64 (f : Nat)) := by rw [← hf]; exact (hnx.cell hlt).1
      rw [hd, hl] at hst
      obtain ⟨Y, hY⟩ : ∃ Y, Q (k + 1) = Y := ⟨_, rfl⟩
      rw [hY] at hst
      have hstk := Keep.mk hst
      have hYk := Keep.mk hY
      obtain ⟨X, hX⟩ : ∃ X, Q k = X := ⟨_, rfl⟩
      rw [hX] at hstk ⊢
      clear hf hd hl hnx hst hY hX
      by_cases hbit : p = 1
      · subst hbit
        have hDb : s k = true := by have := hbk.out.1 rfl; simp at this; exact this.2
        by_cases hl1 : l = 1
        · subst hl1
          have hor := hstk.out.2.2 hDb rfl
          clear hbk hDb
          go_wp2_with (go_at_call 54; (with_reducible refine (q _).mono ?_); rintro e w1 ⟨rfl, hb1⟩; have hI1 := Keep.mk (hI.out.trans (hb1.mono hI.out.size)); clear hb1)
          exact ⟨⟨k + 1, by omega, by rw [hYk.out], by go_num, hI1⟩, by simp [intOf]; omega⟩
        · have hl1' : ¬ (l : Int) = 1 := by omega
          have hE := Keep.mk (hstk.out.2.1 hl1)
          clear hbk hDb hl1
          go_wp2_with (go_at_call 54; (with_reducible refine (q _).mono ?_); rintro e w1 ⟨rfl, hb1⟩; have hI1 := Keep.mk (hI.out.trans (hb1.mono hI.out.size)); clear hb1)
          exact ⟨⟨k + 1, by omega, by rw [hYk.out, hE.out], by go_num, hI1⟩, by simp [intOf]; omega⟩
      · have hbit' : ¬ (p : Int) = 1 := by omega
        have hDb : s k = false := by
          cases e : s k with
          | false => rfl
          | true => exact absurd (hbk.out.2 (by simp [e]; omega)) hbit
        have hE := Keep.mk (hstk.out.1 hDb)
        clear hbk hbit hDb
        go_wp2
        exact ⟨⟨k + 1, by omega, by rw [hYk.out, hE.out], by go_num, hI⟩, by simp [intOf]; omega⟩
    · obtain rfl : k = N := by omega
      have hlt' : ¬ (k : Int) < (k : Int) := by omega
      go_wp2
      refine bodyPost_ret (v := .int .i64 (Q k : Nat)) (by simp [results, Try.results65, go_sem]) rfl ?_
      exact ⟨rfl, hI.out⟩
end Go.Proofs.Yteekigpdiklppaa
set_option linter.unusedSimpArgs false
set_option linter.unusedVariables false
namespace Go.Proofs.Yteekigpdiklppaa
open Go Go.Proofs Go.RowKit Go.Seq
attribute [local go_sem] Oper.semAt_some
theorem only_sz {D : Nat → Bool} {j : Nat} (hj : j < 12) : onlyOf D = (j : Int) ↔ sz D = 1 ∧ D j = true := by
  constructor
  · intro h
    refine ⟨?_, (onlyOf_some h).2.1⟩
    unfold onlyOf at h
    unfold sz
    cases hx : vsTo D 12 with
    | nil => rw [hx] at h; simp at h
    | cons a l =>
      cases l with
      | nil => rfl
      | cons b l => rw [hx] at h; simp at h
  · rintro ⟨h, hd⟩
    unfold sz at h
    obtain ⟨u, hu⟩ := List.length_eq_one_iff.1 h
    have hm : j ∈ vsTo D 12 := vs_mem.2 ⟨hj, hd⟩
    unfold onlyOf
    rw [hu] at hm ⊢
    rw [List.mem_singleton.1 hm]
theorem fdTo_iff {adj : Nat → Nat → Bool} {s : Nat → Bool} {j : Nat} : ∀ k, fdTo adj s k j = true ↔ ∃ i, i < k ∧ s i = true ∧ sz (fun u => adj i u && !s u) = 1 ∧ (adj i j && !s j) = true
  | 0 => by simp [fdTo]
  | k + 1 => by
    unfold fdTo
    rw [Bool.or_eq_true, fdTo_iff k, Bool.and_eq_true, Bool.and_eq_true, decide_eq_true_iff]
    constructor
    · rintro (⟨i, a, b, c, d⟩ | ⟨⟨a, b⟩, c⟩)
      · exact ⟨i, by omega, b, c, d⟩
      · exact ⟨k, by omega, a, b, c⟩
    · rintro ⟨i, a, b, c, d⟩
      by_cases e : i = k
      · subst e; exact .inr ⟨⟨b, c⟩, d⟩
      · exact .inl ⟨i, by omega, b, c, d⟩
/-- A round of the program is the reference's. -/
theorem fround_fd {N : Nat} {adj : Nat → Nat → Bool} {s : Nat → Bool} (hN : N ≤ 12) (hs : InN N s) {j : Nat} (hj : j < 12) : fround adj s j = (s j || fdTo adj s N j) := by
  rw [Bool.eq_iff_iff, force_iff, Bool.or_eq_true, fdTo_iff]
  refine or_congr_right ?_
  constructor
  · rintro ⟨v, a, b, c⟩
    obtain ⟨d, e⟩ := (only_sz hj).1 c
    refine ⟨v, ?_, b, d, e⟩
    rcases Nat.lt_or_ge v N with h | h
    · exact h
    · rw [hs v h a] at b; cases b
  · rintro ⟨i, a, b, c, d⟩
    exact ⟨i, by omega, b, (only_sz hj).2 ⟨c, d⟩⟩
/-- The round of each place, so far. -/
def rdF (adj : Nat → Nat → Bool) (N : Nat) (s : Nat → Bool) : Nat → Nat → Int
  | 0, j => if s j = true then 0 else -1
  | m + 1, j => if fdTo adj (stg (fround adj) s m) N j = true then (m : Int) + 1 else rdF adj N s m j
def NumsI (w : World) (G M : Nat) (f : Nat → Int) : Prop := ∃ cs : Array Value, w.heap[G]? = some (.cells cs 3 (0, 0)) ∧ cs.size = M ∧ ∀ j, j < M → cs[j]? = some (.int .i64 (f j))
theorem NumsI.cell {w : World} {G M : Nat} {f : Nat → Int} (h : NumsI w G M f) {j : Nat} (hj : j < M) : w.cell? ⟨G, j, none⟩ = some (.int .i64 (f j)) ∧ w.frozen? ⟨G, j, none⟩ = false := by
  obtain ⟨cs, h1, h2, h3⟩ := h
  exact ⟨by simp only [World.cell?, h1]; exact h3 j hj, by simp [World.frozen?, h1]⟩
theorem NumsI.lt {w : World} {G M : Nat} {f : Nat → Int} (h : NumsI w G M f) : G < w.heap.size := by
  obtain ⟨cs, h1, _⟩ := h; exact (Array.getElem?_eq_some_iff.1 h1).1
theorem NumsI.below {w w' : World} {G M : Nat} {f : Nat → Int} (h : NumsI w G M f) (hb : Below w.heap.size w w') : NumsI w' G M f := by
  have hl := h.lt
  obtain ⟨cs, h1, h2⟩ := h; exact ⟨cs, (hb.block G hl).trans h1, h2⟩
theorem NumsI.fn {w : World} {G M : Nat} {f g : Nat → Int} (h : NumsI w G M f) (e : ∀ j, j < M → g j = f j) : NumsI w G M g := by
  obtain ⟨cs, h1, h2, h3⟩ := h; exact ⟨cs, h1, h2, fun j hj => by rw [e j hj]; exact h3 j hj⟩
theorem NumsI.set {w : World} {G M p : Nat} {x : Int} {f g : Nat → Int} (h : NumsI w G M f) (hp : p < M) (hx : g p = x) (hg : ∀ j, j < M → j ≠ p → g j = f j) : NumsI (w.setCell ⟨G, p, none⟩ (.int .i64 x)) G M g := by
  obtain ⟨cs, h1, h2, h3⟩ := h
  refine ⟨_, heap_set h1 _, by simp [h2], fun j hj => ?_⟩
  by_cases e : j = p
  · subst e; rw [hx]; simp [h2, hj]
  · rw [hg j hj e, Array.getElem?_setIfInBounds_ne (by omega)]; exact h3 j hj
theorem NumsI.new (w : World) {M : Nat} {cs : Array Value} (h2 : cs.size = M) (h3 : ∀ j, j < M → cs[j]? = some (.int .i64 0)) : NumsI (w.alloc (.cells cs 3)) w.heap.size M (fun _ => 0) :=
  ⟨cs, World.alloc_heap_new w _, h2, h3⟩
theorem fd_zero {N : Nat} {adj : Nat → Nat → Bool} {s : Nat → Bool} (hN : N ≤ 12) (hs : InN N s) : num (fdTo adj s N) = 0 ↔ eqb (fround adj s) s = true := by
  rw [num_none, eqb_iff]
  constructor
  · intro h j hj
    rw [fround_fd hN hs hj, h j hj, Bool.or_false]
  · intro h j hj
    cases e : fdTo adj s N j with
    | false => rfl
    | true =>
      have h1 := h j hj
      obtain ⟨i, _, _, _, d⟩ := (fdTo_iff N).1 e
      rw [fround_fd hN hs hj, e, Bool.or_true] at h1
      rw [← h1] at d; simp at d
/-- The round of each place in the whole closure. -/
def roundsOf (adj : Nat → Nat → Bool) (N : Nat) (s : Nat → Bool) : Nat → Int := rdF adj N s (kfOf (fround adj) s)
set_option maxHeartbeats 4000000 in
set_option maxRecDepth 100000 in
theorem refClose_any {N : Nat} {E : Pts} {s : Nat → Bool} {n G : Nat} {w : World} (h : GOk N E) (hs : InN N s) (hn : num s = n) (hG : NumsAt w G N 3 (nearOf E)) :
    Calls Try.prog 25 #[.slice (some ⟨G, 0, none⟩) N N, .int .i64 (n : Nat)] w fun e w' => ∃ R, e = .returned (.tuple #[.int .i64 (num (clo (fround (adjOf E)) s) : Nat), .slice (some ⟨R, 0, none⟩) N N]) ∧ NumsI w' R N (roundsOf (adjOf E) N s) ∧ w.heap.size ≤ R ∧ Below w.heap.size w w' := by
  have hN := h.n12
  have hmk := fun w => made23 hN w
  have hGk := Keep.mk hG
  have hnl : n < 4096 := by rw [← hn]; exact num_lt s
  have hbits := fun k => num_bit s k
  rw [hn] at hbits
  have hst := stops_kf (infl_force (adjOf E)) s
  unfold roundsOf clo
  obtain ⟨K, hK⟩ : ∃ K, kfOf (fround (adjOf E)) s = K := ⟨_, rfl⟩
  rw [hK] at hst ⊢
  have hsin : Keep (∀ m, InN N (stg (fround (adjOf E)) s m)) := ⟨fun m => by
    induction m with
    | zero => exact hs
    | succ m ih =>
      intro j h1 h2
      show fround (adjOf E) (stg (fround (adjOf E)) s m) j = false
      rw [fround_fd hN ih h2, ih j h1 h2, Bool.false_or]
      cases e : fdTo (adjOf E) (stg (fround (adjOf E)) s m) N j with
      | false => rfl
      | true =>
        obtain ⟨i, _, _, _, d⟩ := (fdTo_iff N).1 e
        rw [Bool.and_eq_true] at d
        have := h.adj d.1; omega⟩
  have q65 : Keep (∀ (m : Nat) (a : Nat) (W : World), num (stg (fround (adjOf E)) s m) = a → NumsAt W G N 3 (nearOf E) → _) := ⟨fun m a W h1 h2 => forced_any (w := W) hN h1 h2⟩
  have hz : Keep (∀ m, m ≤ K → (num (fdTo (adjOf E) (stg (fround (adjOf E)) s m) N) = 0 ↔ m = K)) := ⟨fun m hm => by
    rw [fd_zero hN (hsin.out m)]
    constructor
    · intro e
      rcases Nat.lt_or_ge m K with hlt | hge
      · have := hst.less m hlt
        rw [show stg (fround (adjOf E)) s (m + 1) = fround (adjOf E) (stg (fround (adjOf E)) s m) from rfl, e] at this; cases this
      · omega
    · rintro rfl; exact hst.last⟩
  have hnext : Keep (∀ m, bits .or .i64 (num (stg (fround (adjOf E)) s m) : Int) (num (fdTo (adjOf E) (stg (fround (adjOf E)) s m) N) : Int) = ((num (stg (fround (adjOf E)) s (m + 1)) : Nat) : Int)) := ⟨fun m => by
    rw [or_num]
    congr 1
    refine num_ext fun j hj => ?_
    exact (fround_fd hN (hsin.out m) hj).symm⟩
  have hKl := hst.le
  obtain ⟨wa, hwa⟩ : ∃ wa, w.alloc (.cells (intZ N) 3) = wa := ⟨_, rfl⟩
  have ba : Below w.heap.size w wa := by rw [← hwa]; exact (Below.refl _ _).alloc (Nat.le_refl _) _
  have n0 : NumsI wa w.heap.size N (fun j => if j < 0 then (if s j = true then 0 else -1) else 0) := by
    rw [← hwa]
    exact (NumsI.new w (intZ_at N).1 (intZ_at N).2).fn fun j hj => by simp
  have hI0 := Keep.mk (And.intro n0 ba)
  obtain ⟨R, hR⟩ : ∃ R, w.heap.size = R := ⟨_, rfl⟩
  have hRk := Keep.mk hR
  have hN0 := Keep.mk hn
  clear hK hst ba n0 hG hn h hs
  go_enter Try.func25, Try.ntmps25
  go_wp2
  try rw [hwa]
  try rw [hR]
  rw [hR] at hI0
  clear hwa hmk hR
  go_loopw [7] (fun i wr => ∃ k : Nat, k ≤ N ∧ i = .int .i64 k ∧ Keep (NumsI wr R N (fun j => if j < k then (if s j = true then 0 else -1) else 0) ∧ Below R w wr)) (fun i _ => N - (intOf i).toNat)
  case atStart => exact ⟨0, by omega, rfl, hI0⟩
  case round =>
    obtain ⟨k, hk, rfl, hI⟩ := hrel
    by_cases hlt : k < N
    · have hw1 : IntKind.i64.wrap ((k : Int) + 1) = (k : Int) + 1 := IntWalk.i64_in _ (by omega)
      have hlt' : (k : Int) < (N : Int) := by omega
      have hk0 : ¬ (k : Int) < 0 := by omega
      have hsh := shr_i64 n k hnl
      obtain ⟨q, hq⟩ : ∃ q, n / 2 ^ k = q := ⟨_, rfl⟩
      rw [hq] at hsh
      have hb := bit_mod n k
      rw [hq, hbits k] at hb
      obtain ⟨p, hp⟩ : ∃ p, q % 2 = p := ⟨_, rfl⟩
      have hp2 : p < 2 := by omega
      have hrem : (q : Int).tmod 2 = (p : Int) := by rw [show (2 : Int) = ((2 : Nat) : Int) from rfl, IntWalk.up_tmod rfl rfl, hp]
      rw [hp] at hb
      obtain ⟨v, hv⟩ : ∃ v : Int, (p : Int) - 1 = v := ⟨_, rfl⟩
      have hvw : IntKind.i64.wrap ((p : Int) - 1) = v := by rw [hv]; exact IntWalk.i64_in _ (by omega)
      have hvs : v = if s k = true then 0 else -1 := by
        by_cases e : p = 1
        · have := hb.1 e; simp at this; rw [if_pos this.2]; omega
        · have : ¬ s k = true := fun e2 => e (hb.2 (by simp [e2]; omega))
          rw [if_neg this]; omega
      have hvk := Keep.mk hvs
      obtain ⟨cG, fG⟩ := hI.out.1.cell hlt
      clear hb hp hq hv hvs hp2
      go_wp2
      refine ⟨⟨k + 1, by omega, by go_num, ⟨hI.out.1.set hlt (by rw [if_pos (by omega)]; exact hvk.out.symm) (fun j hj hne => ?_), hI.out.2.setCell (p := ⟨R, k, none⟩) (Nat.le_refl R) _⟩⟩, by simp [intOf]; omega⟩
      by_cases e : j < k
      · rw [if_pos e, if_pos (by omega)]
      · rw [if_neg e, if_neg (by omega)]
    · obtain rfl : k = N := by omega
      have hlt' : ¬ (k : Int) < (k : Int) := by omega
      have hI1 : Keep (NumsI wr R k (rdF (adjOf E) k s 0) ∧ Below R w wr) := ⟨hI.out.1.fn (fun j hj => by simp [rdF, hj]), hI.out.2⟩
      clear hI hI0
      go_wp2
      go_loopw [8, 9] (fun c i wr => ∃ m : Nat, m ≤ K ∧ c = .int .i64 (num (stg (fround (adjOf E)) s m) : Nat) ∧ i = .int .i64 ((m : Int) + 1) ∧ Keep (NumsI wr R k (rdF (adjOf E) k s m) ∧ Below R w wr)) (fun _ i _ => K + 1 - (intOf i).toNat)
      case atStart => exact ⟨0, by omega, by rw [show stg (fround (adjOf E)) s 0 = s from rfl, hN0.out], rfl, hI1⟩
      case round =>
        obtain ⟨m, hm, rfl, rfl, hJ⟩ := hrel
        have hGw : NumsAt wr G k 3 (nearOf E) := hGk.out.below (by have hb := hJ.out.2; rw [← hRk.out] at hb; exact hb) hGk.out.lt
        have hzm := hz.out m hm
        have hnm := hnext.out m
        obtain ⟨C, hC⟩ : ∃ C, num (stg (fround (adjOf E)) s m) = C := ⟨_, rfl⟩
        have qf := fun (W : World) (hW : NumsAt W G k 3 (nearOf E)) => q65.out m C W hC hW
        have hFb := fun t => num_bit (fdTo (adjOf E) (stg (fround (adjOf E)) s m) k) t
        have hFl := num_lt (fdTo (adjOf E) (stg (fround (adjOf E)) s m) k)
        have hrd : ∀ t, rdF (adjOf E) k s (m + 1) t = if fdTo (adjOf E) (stg (fround (adjOf E)) s m) k t = true then (m : Int) + 1 else rdF (adjOf E) k s m t := fun t => rfl
        obtain ⟨X, hX⟩ : ∃ X, fdTo (adjOf E) (stg (fround (adjOf E)) s m) k = X := ⟨_, rfl⟩
        rw [hX] at hzm hnm hFb hFl
        simp only [hX] at hrd
        have qf2 : ∀ (W : World), NumsAt W G k 3 (nearOf E) → Calls Try.prog 65 #[.slice (some ⟨G, 0, none⟩) k k, .int .i64 (C : Nat)] W fun e w' => e = .returned (.int .i64 (num X : Nat)) ∧ Below W.heap.size W w' := fun W hW => by have := qf W hW; rw [hX] at this; exact this
        obtain ⟨F, hF⟩ : ∃ F, num X = F := ⟨_, rfl⟩
        rw [hF] at hzm hnm hFb hFl
        simp only [hF] at qf2
        rw [hC] at hnm ⊢
        have hrdk := Keep.mk hrd
        have hCk := Keep.mk hC
        clear qf hX hF hrd hC
        by_cases hmK : m < K
        · have hF0 : ¬ (F : Int) = 0 := by omega
          have hw2 : IntKind.i64.wrap ((m : Int) + 1 + 1) = (m : Int) + 1 + 1 := IntWalk.i64_in _ (by omega)
          obtain ⟨D, hD⟩ : ∃ D, num (stg (fround (adjOf E)) s (m + 1)) = D := ⟨_, rfl⟩
          rw [hD] at hnm
          have hDk := Keep.mk hD
          have q1 := qf2 wr hGw
          clear hD hzm
          go_wp2_with (first
            | (go_at_call 65; (with_reducible refine q1.mono ?_); rintro e w1 ⟨rfl, hb1⟩
               have hJ1 : Keep (NumsI w1 R k (rdF (adjOf E) k s m) ∧ Below R w w1) := ⟨hJ.out.1.below hb1, hJ.out.2.trans (hb1.mono (Nat.le_of_lt hJ.out.1.lt))⟩
               have hG1 := hGw.below hb1 hGw.lt
               have q2 := qf2 w1 hG1
               clear hb1 q1)
            | (go_at_call 65; (with_reducible refine q2.mono ?_); rintro e w2 ⟨rfl, hb2⟩
               have hJ2 : Keep (NumsI w2 R k (fun j => if j < 0 then rdF (adjOf E) k s (m + 1) j else rdF (adjOf E) k s m j) ∧ Below R w w2) := ⟨(hJ1.out.1.below hb2).fn (fun j hj => by simp), hJ1.out.2.trans (hb2.mono (Nat.le_of_lt hJ1.out.1.lt))⟩
               clear hb2 q2))
          clear hJ hJ1 hG1 hGw qf2
          go_loopw [11] (fun i wr => ∃ t : Nat, t ≤ k ∧ i = .int .i64 t ∧ Keep (NumsI wr R k (fun j => if j < t then rdF (adjOf E) k s (m + 1) j else rdF (adjOf E) k s m j) ∧ Below R w wr)) (fun i _ => k - (intOf i).toNat)
          case atStart => exact ⟨0, by omega, rfl, hJ2⟩
          case round =>
            obtain ⟨t, ht, rfl, hL⟩ := hrel
            by_cases hlt2 : t < k
            · have hw3 : IntKind.i64.wrap ((t : Int) + 1) = (t : Int) + 1 := IntWalk.i64_in _ (by omega)
              have hlt2' : (t : Int) < (k : Int) := by omega
              have ht0 : ¬ (t : Int) < 0 := by omega
              have hsh := shr_i64 F t hFl
              obtain ⟨q, hq⟩ : ∃ q, F / 2 ^ t = q := ⟨_, rfl⟩
              rw [hq] at hsh
              have hb := bit_mod F t
              rw [hq, hFb t] at hb
              obtain ⟨p, hp⟩ : ∃ p, q % 2 = p := ⟨_, rfl⟩
              have hrem : (q : Int).tmod 2 = (p : Int) := by rw [show (2 : Int) = ((2 : Nat) : Int) from rfl, IntWalk.up_tmod rfl rfl, hp]
              rw [hp] at hb
              have hbk := Keep.mk hb
              obtain ⟨cG, fG⟩ := hL.out.1.cell hlt2
              clear hb hp hq
              by_cases hbit : p = 1
              · subst hbit
                have hXt := hbk.out.1 rfl
                simp at hXt
                have hXk := Keep.mk hXt.2
                clear hXt hbk
                go_wp2
                refine ⟨⟨t + 1, by omega, by go_num, ⟨hL.out.1.set hlt2 (by rw [if_pos (by omega), hrdk.out t, if_pos hXk.out]) (fun j hj hne => ?_), hL.out.2.setCell (p := ⟨R, t, none⟩) (Nat.le_refl R) _⟩⟩, by simp [intOf]; omega⟩
                by_cases e : j < t
                · rw [if_pos e, if_pos (by omega)]
                · rw [if_neg e, if_neg (by omega)]
              · have hbit' : ¬ (p : Int) = 1 := by omega
                have hXk : Keep (¬ X t = true) := ⟨fun e => hbit (hbk.out.2 (by simp [e]; omega))⟩
                clear hbk hbit
                have hL2 : Keep (NumsI wr R k (fun j => if j < t + 1 then rdF (adjOf E) k s (m + 1) j else rdF (adjOf E) k s m j) ∧ Below R w wr) := ⟨hL.out.1.fn (fun j hj => by
                  by_cases e : j < t
                  · rw [if_pos (by omega), if_pos e]
                  · by_cases e2 : j = t
                    · subst e2; rw [if_pos (by omega), if_neg e, hrdk.out j, if_neg hXk.out]
                    · rw [if_neg (by omega), if_neg e]), hL.out.2⟩
                go_wp2
                exact ⟨⟨t + 1, by omega, by go_num, hL2⟩, by simp [intOf]; omega⟩
            · obtain rfl : t = k := by omega
              have hlt2' : ¬ (t : Int) < (t : Int) := by omega
              have hL2 : Keep (NumsI wr R t (rdF (adjOf E) t s (m + 1)) ∧ Below R w wr) := ⟨hL.out.1.fn (fun j hj => by rw [if_pos hj]), hL.out.2⟩
              go_wp2
              exact ⟨⟨m + 1, by omega, by rw [hDk.out], by first | go_num | simp, hL2⟩, by simp [intOf]; omega⟩
        · obtain rfl : m = K := by omega
          have hF0 : F = 0 := hzm.2 rfl
          subst hF0
          have q1 := qf2 wr hGw
          clear hzm hFb hnm
          go_wp2_with (go_at_call 65; (with_reducible refine q1.mono ?_); rintro e w1 ⟨rfl, hb1⟩
                       have hJ1 : Keep (NumsI w1 R k (rdF (adjOf E) k s m) ∧ Below R w w1) := ⟨hJ.out.1.below hb1, hJ.out.2.trans (hb1.mono (Nat.le_of_lt hJ.out.1.lt))⟩
                       clear hb1)
          refine bodyPost_ret (v := .tuple #[.int .i64 (C : Nat), .slice (some ⟨R, 0, none⟩) k k]) (by simp [results, Try.results25, go_sem]) rfl ?_
          exact ⟨R, by rw [hCk.out], hJ1.out.1, Nat.le_of_eq hRk.out, by rw [hRk.out]; exact hJ1.out.2⟩
end Go.Proofs.Yteekigpdiklppaa
set_option linter.unusedSimpArgs false
set_option linter.unusedVariables false
namespace Go.Proofs.Yteekigpdiklppaa
open Go Go.Proofs Go.RowKit Go.Seq
attribute [local go_sem] Oper.semAt_some
/-- What the first places of a graph soak, as the reference gathers it. -/
def sdTo (adj : Nat → Nat → Bool) (r : Int) (s : Nat → Bool) : Nat → Nat → Bool
  | 0 => fun _ => false
  | k + 1 => if (!s k && decide (r ≤ (sz (fun u => adj k u && s u) : Int))) = true then adds (sdTo adj r s k) k else sdTo adj r s k
theorem sd_succ (adj : Nat → Nat → Bool) (r : Int) (s : Nat → Bool) (k : Nat) : sdTo adj r s (k + 1) = if (!s k && decide (r ≤ (sz (fun u => adj k u && s u) : Int))) = true then adds (sdTo adj r s k) k else sdTo adj r s k := rfl
set_option maxHeartbeats 2000000 in
set_option maxRecDepth 100000 in
theorem soaked_any {N : Nat} {E : Pts} {r : Int} {s : Nat → Bool} {n G : Nat} {w : World} (hN : N ≤ 12) (hn : num s = n) (hG : NumsAt w G N 3 (nearOf E)) :
    Calls Try.prog 68 #[.slice (some ⟨G, 0, none⟩) N N, .int .i64 (n : Nat), .int .i64 r] w fun e w' => e = .returned (.int .i64 (num (sdTo (adjOf E) r s N) : Nat)) ∧ Below w.heap.size w w' := by
  have hGk := Keep.mk hG
  have hnl : n < 4096 := by rw [← hn]; exact num_lt s
  have hbits := fun k => num_bit s k
  have q54 : Keep (∀ (i : Nat) (d l : Nat), num (fun j => adjOf E i j && s j) = d → sz (fun j => adjOf E i j && s j) = l → _) := ⟨fun i d l h1 h2 => fun W => count_any h1 h2 W⟩
  have hdf := Keep.mk (fun i => and_num (adjOf E i) s)
  rw [hn] at hbits hdf
  obtain ⟨Q, hQ⟩ : ∃ Q : Nat → Nat, Q = fun k => num (sdTo (adjOf E) r s k) := ⟨_, rfl⟩
  have hQ0 : Q 0 = 0 := by rw [hQ]; exact num_none.2 (fun j hj => rfl)
  have hQs : Keep (∀ k, k < 12 → (s k = true → Q (k + 1) = Q k) ∧ (¬ r ≤ (sz (fun u => adjOf E k u && s u) : Int) → Q (k + 1) = Q k) ∧ (s k = false → r ≤ (sz (fun u => adjOf E k u && s u) : Int) → ∀ P : Nat, 2 ^ k = P → bits .or .i64 (Q k : Int) (P : Int) = (Q (k + 1) : Int))) := ⟨fun k hk => by
    rw [hQ]
    refine ⟨fun h => ?_, fun h => ?_, fun h1 h2 P hP => ?_⟩
    · show num (sdTo (adjOf E) r s (k + 1)) = num (sdTo (adjOf E) r s k)
      rw [sd_succ, if_neg (by rw [h]; simp)]
    · show num (sdTo (adjOf E) r s (k + 1)) = num (sdTo (adjOf E) r s k)
      rw [sd_succ, if_neg (by rw [decide_eq_false h]; simp)]
    · have hp := pow_lt (u := k) (by omega)
      have hl := num_lt (sdTo (adjOf E) r s k)
      have e : num (sdTo (adjOf E) r s (k + 1)) = num (adds (sdTo (adjOf E) r s k) k) := by
        rw [sd_succ, if_pos (by rw [h1, decide_eq_true h2]; rfl)]
      show bits .or .i64 ((num (sdTo (adjOf E) r s k) : Nat) : Int) (P : Int) = ((num (sdTo (adjOf E) r s (k + 1)) : Nat) : Int)
      rw [← hP, or_i64 _ _ (by omega) (by omega), num_or _ _ hk]
      rw [e]⟩
  rw [show num (sdTo (adjOf E) r s N) = Q N by rw [hQ]]
  clear hG hn hQ
  go_enter Try.func68, Try.ntmps68
  go_wp2
  go_loopw [7, 8] (fun a i wr => ∃ k : Nat, k ≤ N ∧ a = .int .i64 (Q k : Nat) ∧ i = .int .i64 k ∧ Keep (Below w.heap.size w wr)) (fun _ i _ => N - (intOf i).toNat)
  case atStart => exact ⟨0, by omega, by rw [hQ0]; rfl, rfl, ⟨Below.refl _ _⟩⟩
  case round =>
    obtain ⟨k, hk, rfl, rfl, hI⟩ := hrel
    by_cases hlt : k < N
    · have hw1 : IntKind.i64.wrap ((k : Int) + 1) = (k : Int) + 1 := IntWalk.i64_in _ (by omega)
      have hlt' : (k : Int) < (N : Int) := by omega
      have hk0 : ¬ (k : Int) < 0 := by omega
      have hst := hQs.out k (by omega)
      have hsh := shr_i64 n k hnl
      obtain ⟨q, hq⟩ : ∃ q, n / 2 ^ k = q := ⟨_, rfl⟩
      rw [hq] at hsh
      have hb := bit_mod n k
      rw [hq, hbits k] at hb
      obtain ⟨p, hp⟩ : ∃ p, q % 2 = p := ⟨_, rfl⟩
      have hrem : (q : Int).tmod 2 = (p : Int) := by rw [show (2 : Int) = ((2 : Nat) : Int) from rfl, IntWalk.up_tmod rfl rfl, hp]
      rw [hp] at hb
      have hp2k : Keep (p < 2) := ⟨by omega⟩
      have hbk := Keep.mk hb
      clear hb hp hq
      obtain ⟨f, hf⟩ : ∃ f, nearOf E k = f := ⟨_, rfl⟩
      obtain ⟨d, hd⟩ : ∃ d, num (fun j => adjOf E k j && s j) = d := ⟨_, rfl⟩
      obtain ⟨l, hl⟩ : ∃ l, sz (fun j => adjOf E k j && s j) = l := ⟨_, rfl⟩
      have q := q54.out k d l hd hl
      have dd : bits .and .i64 (f : Int) (n : Int) = (d : Int) := by
        have := hdf.out k
        rw [hd] at this; rw [← hf]; exact this
      have hnx := hGk.out.below hI.out hGk.out.lt
      have cG : wr.cell? ⟨G, k, none⟩ = some (.int .i64 (f : Nat)) := by rw [← hf]; exact (hnx.cell hlt).1
      rw [hl] at hst
      obtain ⟨Y, hY⟩ : ∃ Y, Q (k + 1) = Y := ⟨_, rfl⟩
      rw [hY] at hst
      have hstk := Keep.mk hst
      have hYk := Keep.mk hY
      obtain ⟨X, hX⟩ : ∃ X, Q k = X := ⟨_, rfl⟩
      rw [hX] at hstk ⊢
      clear hf hd hl hnx hst hY hX
      have hp2 : p < 2 := hp2k.out
      obtain ⟨P, hP⟩ : ∃ P : Nat, 2 ^ k = P := ⟨_, rfl⟩
      have wP : IntKind.i64.wrap (2 ^ k) = (P : Int) := by rw [← hP]; exact wrap_pow (by omega)
      by_cases hbit : p = 0
      · subst hbit
        have hDb : s k = false := by
          cases e : s k with
          | false => rfl
          | true => have := hbk.out.2 (by simp [e]; omega); omega
        by_cases hl1 : r ≤ (l : Int)
        · have hor := hstk.out.2.2 hDb hl1 P hP
          clear hbk hDb hP
          go_wp2_with (go_at_call 54; (with_reducible refine (q _).mono ?_); rintro e w1 ⟨rfl, hb1⟩; have hI1 := Keep.mk (hI.out.trans (hb1.mono hI.out.size)); clear hb1)
          exact ⟨⟨k + 1, by omega, by rw [hYk.out], by go_num, hI1⟩, by simp [intOf]; omega⟩
        · have hE := Keep.mk (hstk.out.2.1 (by omega))
          clear hbk hDb hP
          go_wp2_with (go_at_call 54; (with_reducible refine (q _).mono ?_); rintro e w1 ⟨rfl, hb1⟩; have hI1 := Keep.mk (hI.out.trans (hb1.mono hI.out.size)); clear hb1)
          exact ⟨⟨k + 1, by omega, by rw [hYk.out, hE.out], by go_num, hI1⟩, by simp [intOf]; omega⟩
      · obtain rfl : p = 1 := by omega
        have hDb : s k = true := by have := hbk.out.1 rfl; simp at this; exact this.2
        have hE := Keep.mk (hstk.out.1 hDb)
        clear hbk hbit hDb hP
        go_wp2
        exact ⟨⟨k + 1, by omega, by rw [hYk.out, hE.out], by go_num, hI⟩, by simp [intOf]; omega⟩
    · obtain rfl : k = N := by omega
      have hlt' : ¬ (k : Int) < (k : Int) := by omega
      go_wp2
      refine bodyPost_ret (v := .int .i64 (Q k : Nat)) (by simp [results, Try.results68, go_sem]) rfl ?_
      exact ⟨rfl, hI.out⟩
theorem sdTo_iff {adj : Nat → Nat → Bool} {r : Int} {s : Nat → Bool} {j : Nat} : ∀ k, sdTo adj r s k j = true ↔ j < k ∧ s j = false ∧ r ≤ (sz (fun u => adj j u && s u) : Int)
  | 0 => by simp [sdTo]
  | k + 1 => by
    unfold sdTo
    have ih := sdTo_iff (adj := adj) (r := r) (s := s) (j := j) k
    split
    · rename_i h
      simp only [Bool.and_eq_true, Bool.not_eq_true', decide_eq_true_eq] at h
      unfold adds
      by_cases e : j = k
      · subst e; simp [h.1, h.2]
      · rw [if_neg e, ih]
        constructor
        · rintro ⟨a, b⟩; exact ⟨by omega, b⟩
        · rintro ⟨a, b⟩; exact ⟨by omega, b⟩
    · rename_i h
      simp only [Bool.and_eq_true, Bool.not_eq_true', decide_eq_true_eq] at h
      rw [ih]
      constructor
      · rintro ⟨a, b⟩; exact ⟨by omega, b⟩
      · rintro ⟨a, b⟩
        refine ⟨?_, b⟩
        have : j ≠ k := by rintro rfl; exact h b
        omega
/-- A round of soaking is the reference's. -/
theorem sokd_sd {N : Nat} {adj : Nat → Nat → Bool} {r : Int} {s : Nat → Bool} {j : Nat} : sokd N adj r s j = (s j || sdTo adj r s N j) := by
  have hp := vsTo_part (adj j) s 12
  rw [Bool.eq_iff_iff, Bool.or_eq_true, sdTo_iff]
  unfold sokd oneSo hit
  by_cases h : j < N
  · rw [if_pos h, Bool.or_eq_true, decide_eq_true_iff]
    cases e : s j with
    | true => simp
    | false =>
      simp only [Bool.false_eq_true, false_or]
      unfold sz
      constructor
      · intro h2; exact ⟨h, trivial, by omega⟩
      · rintro ⟨_, _, h2⟩; omega
  · rw [if_neg h]; simp [h]
end Go.Proofs.Yteekigpdiklppaa
set_option linter.unusedSimpArgs false
set_option linter.unusedVariables false
namespace Go.Proofs.Yteekigpdiklppaa
open Go Go.Proofs Go.RowKit Go.Seq
attribute [local go_sem] Oper.semAt_some
theorem sd_zero {N : Nat} {adj : Nat → Nat → Bool} {r : Int} {s : Nat → Bool} : num (sdTo adj r s N) = 0 ↔ eqb (sokd N adj r s) s = true := by
  rw [num_none, eqb_iff]
  constructor
  · intro h j hj
    rw [sokd_sd, h j hj, Bool.or_false]
  · intro h j hj
    cases e : sdTo adj r s N j with
    | false => rfl
    | true =>
      have h1 := h j hj
      rw [sokd_sd, e, Bool.or_true] at h1
      have := ((sdTo_iff N).1 e).2.1
      rw [← h1] at this; cases this
set_option maxHeartbeats 2000000 in
set_option maxRecDepth 100000 in
theorem refSoak_any {N : Nat} {E : Pts} {r : Int} {s : Nat → Bool} {n G : Nat} {w : World} (h : GOk N E) (hn : num s = n) (hG : NumsAt w G N 3 (nearOf E)) :
    Calls Try.prog 33 #[.slice (some ⟨G, 0, none⟩) N N, .int .i64 (n : Nat), .int .i64 r] w fun e w' => e = .returned (.tuple #[.int .i64 (num (clo (sokd N (adjOf E) r) s) : Nat), .int .i64 (kfOf (sokd N (adjOf E) r) s : Nat)]) ∧ Below w.heap.size w w' := by
  have hN := h.n12
  have hGk := Keep.mk hG
  have hst := stops_kf (infl_soak N (adjOf E) r) s
  unfold clo
  obtain ⟨K, hK⟩ : ∃ K, kfOf (sokd N (adjOf E) r) s = K := ⟨_, rfl⟩
  rw [hK] at hst ⊢
  have q68 : Keep (∀ (m : Nat) (a : Nat) (W : World), num (stg (sokd N (adjOf E) r) s m) = a → NumsAt W G N 3 (nearOf E) → _) := ⟨fun m a W h1 h2 => soaked_any (w := W) (r := r) hN h1 h2⟩
  have hz : Keep (∀ m, m ≤ K → (num (sdTo (adjOf E) r (stg (sokd N (adjOf E) r) s m) N) = 0 ↔ m = K)) := ⟨fun m hm => by
    rw [sd_zero]
    constructor
    · intro e
      rcases Nat.lt_or_ge m K with hlt | hge
      · have := hst.less m hlt
        rw [show stg (sokd N (adjOf E) r) s (m + 1) = sokd N (adjOf E) r (stg (sokd N (adjOf E) r) s m) from rfl, e] at this; cases this
      · omega
    · rintro rfl; exact hst.last⟩
  have hnext : Keep (∀ m, bits .or .i64 (num (stg (sokd N (adjOf E) r) s m) : Int) (num (sdTo (adjOf E) r (stg (sokd N (adjOf E) r) s m) N) : Int) = ((num (stg (sokd N (adjOf E) r) s (m + 1)) : Nat) : Int)) := ⟨fun m => by
    rw [or_num]
    congr 1
    exact num_ext fun j hj => sokd_sd.symm⟩
  have hKl := hst.le
  have hN0 := Keep.mk hn
  clear hK hst hG hn h
  go_enter Try.func33, Try.ntmps33
  go_wp2
  go_loopw [1, 8] (fun c i wr => ∃ m : Nat, m ≤ K ∧ c = .int .i64 (num (stg (sokd N (adjOf E) r) s m) : Nat) ∧ i = .int .i64 (m : Nat) ∧ Keep (Below w.heap.size w wr)) (fun _ i _ => K - (intOf i).toNat)
  case atStart => exact ⟨0, by omega, by rw [show stg (sokd N (adjOf E) r) s 0 = s from rfl, hN0.out], rfl, ⟨Below.refl _ _⟩⟩
  case round =>
    obtain ⟨m, hm, rfl, rfl, hJ⟩ := hrel
    have hGw : NumsAt wr G N 3 (nearOf E) := hGk.out.below hJ.out hGk.out.lt
    have hzm := hz.out m hm
    have hnm := hnext.out m
    obtain ⟨C, hC⟩ : ∃ C, num (stg (sokd N (adjOf E) r) s m) = C := ⟨_, rfl⟩
    have qf := fun (W : World) (hW : NumsAt W G N 3 (nearOf E)) => q68.out m C W hC hW
    obtain ⟨F, hF⟩ : ∃ F, num (sdTo (adjOf E) r (stg (sokd N (adjOf E) r) s m) N) = F := ⟨_, rfl⟩
    have qf2 : ∀ (W : World), NumsAt W G N 3 (nearOf E) → Calls Try.prog 68 #[.slice (some ⟨G, 0, none⟩) N N, .int .i64 (C : Nat), .int .i64 r] W fun e w' => e = .returned (.int .i64 (F : Nat)) ∧ Below W.heap.size W w' := fun W hW => by have := qf W hW; rw [hF] at this; exact this
    rw [hF] at hzm hnm
    rw [hC] at hnm ⊢
    have hCk := Keep.mk hC
    clear qf hF hC
    by_cases hmK : m < K
    · have hF0 : ¬ (F : Int) = 0 := by omega
      have hw1 : IntKind.i64.wrap ((m : Int) + 1) = (m : Int) + 1 := IntWalk.i64_in _ (by omega)
      obtain ⟨D, hD⟩ : ∃ D, num (stg (sokd N (adjOf E) r) s (m + 1)) = D := ⟨_, rfl⟩
      rw [hD] at hnm
      have hDk := Keep.mk hD
      have q1 := qf2 wr hGw
      clear hD hzm
      go_wp2_with (first
        | (go_at_call 68; (with_reducible refine q1.mono ?_); rintro e w1 ⟨rfl, hb1⟩
           have hJ1 := Keep.mk (hJ.out.trans (hb1.mono hJ.out.size))
           have q2 := qf2 w1 (hGw.below hb1 hGw.lt)
           clear hb1 q1)
        | (go_at_call 68; (with_reducible refine q2.mono ?_); rintro e w2 ⟨rfl, hb2⟩
           have hJ2 := Keep.mk (hJ1.out.trans (hb2.mono hJ1.out.size))
           clear hb2 q2))
      exact ⟨⟨m + 1, by omega, by rw [hDk.out], by go_num, hJ2⟩, by simp [intOf]; omega⟩
    · obtain rfl : m = K := by omega
      have hF0 : F = 0 := hzm.2 rfl
      subst hF0
      have q1 := qf2 wr hGw
      clear hzm hnm
      go_wp2_with (go_at_call 68; (with_reducible refine q1.mono ?_); rintro e w1 ⟨rfl, hb1⟩
                   have hJ1 := Keep.mk (hJ.out.trans (hb1.mono hJ.out.size))
                   clear hb1)
      refine bodyPost_ret (v := .tuple #[.int .i64 (C : Nat), .int .i64 (m : Nat)]) (by simp [results, Try.results33, go_sem]) rfl ?_
      exact ⟨by rw [hCk.out], hJ1.out⟩
end Go.Proofs.Yteekigpdiklppaa
set_option linter.unusedSimpArgs false
set_option linter.unusedVariables false
namespace Go.Proofs.Yteekigpdiklppaa
open Go Go.Proofs Go.RowKit Go.Seq
attribute [local go_sem] Oper.semAt_some
/-- The rounds after a list of stages. -/
def upR (x : Nat × (Nat → Bool)) (f : Nat → Int) (j : Nat) : Int := if f j < 0 ∧ x.2 j = true then (x.1 : Int) else f j
def rdR (pre : List (Nat × (Nat → Bool))) : Nat → Int := pre.foldl (fun f x => upR x f) fun _ => -1
theorem rdR_snoc (pre : List (Nat × (Nat → Bool))) (x : Nat × (Nat → Bool)) : rdR (pre ++ [x]) = upR x (rdR pre) := by
  unfold rdR
  rw [List.foldl_append]; rfl
theorem rdF_neg {adj : Nat → Nat → Bool} {N : Nat} {s : Nat → Bool} (hN : N ≤ 12) (hs : ∀ m, InN N (stg (fround adj) s m)) : ∀ m j, j < N → (rdF adj N s m j < 0 ↔ stg (fround adj) s m j = false)
  | 0, j, hj => by
    show (if s j = true then (0 : Int) else -1) < 0 ↔ s j = false
    cases s j <;> simp
  | m + 1, j, hj => by
    show (if fdTo adj (stg (fround adj) s m) N j = true then (m : Int) + 1 else rdF adj N s m j) < 0 ↔ fround adj (stg (fround adj) s m) j = false
    rw [fround_fd hN (hs m) (by omega)]
    have ih := rdF_neg hN hs m j hj
    cases e : fdTo adj (stg (fround adj) s m) N j with
    | true => simp; omega
    | false => simpa using ih
theorem rdR_stgs {adj : Nat → Nat → Bool} {N : Nat} {s : Nat → Bool} (hN : N ≤ 12) (hs : ∀ m, InN N (stg (fround adj) s m)) : ∀ m j, j < N → rdR (stgs (fround adj) s (m + 1)) j = rdF adj N s m j
  | 0, j, hj => by
    show (if (-1 : Int) < 0 ∧ s j = true then ((0 : Nat) : Int) else -1) = if s j = true then 0 else -1
    cases s j <;> simp
  | m + 1, j, hj => by
    rw [stgs_succ, rdR_snoc]
    show (if rdR (stgs (fround adj) s (m + 1)) j < 0 ∧ stg (fround adj) s (m + 1) j = true then ((m + 1 : Nat) : Int) else rdR (stgs (fround adj) s (m + 1)) j) = if fdTo adj (stg (fround adj) s m) N j = true then (m : Int) + 1 else rdF adj N s m j
    rw [rdR_stgs hN hs m j hj]
    have hng := rdF_neg hN hs m j hj
    generalize rdF adj N s m j = r at hng ⊢
    have e1 : stg (fround adj) s (m + 1) j = fround adj (stg (fround adj) s m) j := rfl
    rw [e1, fround_fd hN (hs m) (by omega)]
    simp only [hng]
    cases e : fdTo adj (stg (fround adj) s m) N j with
    | true =>
      have : stg (fround adj) s m j = false := by
        obtain ⟨i, _, _, _, d⟩ := (fdTo_iff N).1 e
        rw [Bool.and_eq_true] at d
        simpa using d.2
      simp [this]
    | false =>
      cases stg (fround adj) s m j <;> simp
theorem stgs_in {N : Nat} {E : Pts} (h : GOk N E) {s : Nat → Bool} (hs : InN N s) (m : Nat) : InN N (stg (fround (adjOf E)) s m) := by
  have hN := h.n12
  induction m with
  | zero => exact hs
  | succ m ih =>
    intro j h1 h2
    show fround (adjOf E) (stg (fround (adjOf E)) s m) j = false
    rw [fround_fd hN ih h2, ih j h1 h2, Bool.false_or]
    cases e : fdTo (adjOf E) (stg (fround (adjOf E)) s m) N j with
    | false => rfl
    | true =>
      obtain ⟨i, _, _, _, d⟩ := (fdTo_iff N).1 e
      rw [Bool.and_eq_true] at d
      have := h.adj d.1; omega
/-- What Rounds holds between two stages. -/
structure RdI (w : World) (g B n : Nat) (adj : Nat → Nat → Bool) (f : Nat → Int) (W : World) : Prop where
  gr : GraphAt W g n adj
  ns : NumsI W (B + 1) n f
  t11 : W.heap[B + 1 + 1]? = some (.cells #[.slice (some ⟨B + 1, 0, none⟩) n n] 23 (0, 0))
  fv : W.heap[B + 4]? = some (.cells #[.func (.func 59) #[.pointer (some ⟨g, 0, none⟩)] #[]] 93 (0, 0))
  bw : Below w.heap.size w W
  sz : B + 5 ≤ W.heap.size
theorem NumsI.keep {w w' : World} {G M : Nat} {f : Nat → Int} (h : NumsI w G M f) (hb : w'.heap[G]? = w.heap[G]?) : NumsI w' G M f := by
  obtain ⟨cs, h1, h2⟩ := h; exact ⟨cs, hb.trans h1, h2⟩
theorem RdI.keepsL {w W W' : World} {g B n : Nat} {adj : Nat → Nat → Bool} {f : Nat → Int} (h : RdI w g B n adj f W) (hg : g < B) (hB : w.heap.size ≤ B) (hk : Pv.KeepsL (B + 5) (fun k => k = B + 3) W W') : RdI w g B n adj f W' := by
  have hsz := h.sz
  have hb : Below B W W' := hk.below (B := B) (by intro k hk; omega) (by omega)
  exact ⟨h.gr.below hb hg, h.ns.keep (hk.block _ (by omega) (by omega)), (hk.block _ (by omega) (by omega)).trans h.t11, (hk.block _ (by omega) (by omega)).trans h.fv,
    h.bw.trans (hb.mono hB), Nat.le_trans hsz hk.size⟩
theorem RdI.after {w W W' : World} {g B n : Nat} {adj : Nat → Nat → Bool} {f : Nat → Int} (h : RdI w g B n adj f W) (hb : Below W.heap.size W W') : RdI w g B n adj f W' := by
  have hsz := h.sz
  exact ⟨h.gr.below hb h.gr.lt, h.ns.below hb, (hb.block _ (by omega)).trans h.t11, (hb.block _ (by omega)).trans h.fv, h.bw.trans (hb.mono h.bw.size), Nat.le_trans hsz hb.size⟩
theorem RdI.set {w W : World} {g B n p : Nat} {adj : Nat → Nat → Bool} {x : Int} {f f' : Nat → Int} (h : RdI w g B n adj f W) (hg : g < B) (hB : w.heap.size ≤ B) (hp : p < n) (hx : f' p = x) (hf : ∀ j, j < n → j ≠ p → f' j = f j) : RdI w g B n adj f' (W.setCell ⟨B + 1, p, none⟩ (.int .i64 x)) := by
  have ho : ∀ i, i ≠ B + 1 → (W.setCell ⟨B + 1, p, none⟩ (.int .i64 x)).heap[i]? = W.heap[i]? := fun i hi => Below.heap_setCell W ⟨B + 1, p, none⟩ (.int .i64 x) i hi
  exact ⟨⟨(World.cell?_of_block (a := ⟨g, 0, none⟩) (ho g (by omega))).trans h.gr.size, fun i j hi hj => (World.cell?_of_block (a := ⟨g, 1 + i * 12 + j, none⟩) (ho g (by omega))).trans (h.gr.at_ i j hi hj)⟩,
    h.ns.set hp hx hf, (ho _ (by omega)).trans h.t11, (ho _ (by omega)).trans h.fv, h.bw.setCell (p := ⟨B + 1, p, none⟩) (by show w.heap.size ≤ B + 1; omega) _, by have := h.sz; simpa [World.setCell] using this⟩
structure RdJ (w : World) (g B n : Nat) (adj : Nat → Nat → Bool) (S : Nat → Bool) (f : Nat → Int) (W : World) : Prop where
  gr : GraphH W g n adj
  t9 : SetAt W B S
  ns : NumsI W (B + 1) n f
  t11 : W.heap[B + 1 + 1]? = some (.cells #[.slice (some ⟨B + 1, 0, none⟩) n n] 23 (0, 0))
  bw : Below w.heap.size w W
  sz : W.heap.size = B + 1 + 1 + 1
theorem RdJ.set {w W : World} {g B n p : Nat} {adj : Nat → Nat → Bool} {S : Nat → Bool} {x : Int} {f f' : Nat → Int} (h : RdJ w g B n adj S f W) (hg : g < B) (hB : w.heap.size ≤ B) (hp : p < n) (hx : f' p = x) (hf : ∀ j, j < n → j ≠ p → f' j = f j) : RdJ w g B n adj S f' (W.setCell ⟨B + 1, p, none⟩ (.int .i64 x)) := by
  have ho : ∀ i, i ≠ B + 1 → (W.setCell ⟨B + 1, p, none⟩ (.int .i64 x)).heap[i]? = W.heap[i]? := fun i hi => Below.heap_setCell W ⟨B + 1, p, none⟩ (.int .i64 x) i hi
  exact ⟨h.gr.other (ho g (by omega)), h.t9.other (by omega), h.ns.set hp hx hf, (ho _ (by omega)).trans h.t11, h.bw.setCell (p := ⟨B + 1, p, none⟩) (by show w.heap.size ≤ B + 1; omega) _, by have := h.sz; simpa [World.setCell] using this⟩
theorem RdI.same {w W W' : World} {g B n : Nat} {adj : Nat → Nat → Bool} {f : Nat → Int} (h : RdI w g B n adj f W) (hg : g < B) (hB : w.heap.size ≤ B) {C : Nat} (hC : B + 5 ≤ C) (hb : Below C W W') : RdI w g B n adj f W' :=
  ⟨h.gr.below hb (by omega), h.ns.keep (hb.block _ (by omega)), (hb.block _ (by omega)).trans h.t11, (hb.block _ (by omega)).trans h.fv, h.bw.trans (hb.mono (by omega)), Nat.le_trans h.sz hb.size⟩
/-- The rounds after some places of a stage. -/
def up1 (i : Nat) (f : Nat → Int) (u j : Nat) : Int := if j = u ∧ f u < 0 then (i : Int) else f j
def rin (i : Nat) (f : Nat → Int) (us : List Nat) : Nat → Int := us.foldl (up1 i) f
theorem rin_snoc (i : Nat) (f : Nat → Int) (us : List Nat) (u : Nat) : rin i f (us ++ [u]) = up1 i (rin i f us) u := by
  unfold rin
  rw [List.foldl_append]; rfl
theorem rin_eq (i : Nat) : ∀ (us : List Nat) (f : Nat → Int) (j : Nat), rin i f us j = if f j < 0 ∧ j ∈ us then (i : Int) else f j
  | [], f, j => by simp [rin]
  | u :: us, f, j => by
    show rin i (up1 i f u) us j = _
    rw [rin_eq i us]
    unfold up1
    by_cases e : j = u
    · subst e
      by_cases h : f j < 0
      · have : ¬ ((i : Int) < 0) := by omega
        simp [h, this]
      · simp [h]
    · simp [e]
theorem upR_eq (i : Nat) (F : Nat → Bool) (f : Nat → Int) (j : Nat) (hj : j < 12) : upR (i, F) f j = rin i f (vsTo F 12) j := by
  rw [rin_eq]
  unfold upR vsTo
  simp only [List.mem_filter, List.mem_range]
  simp [hj]
/-- What a stage holds between two places. -/
structure RiI (w : World) (g B n : Nat) (adj : Nat → Nat → Bool) (f : Nat → Int) (F : Nat → Bool) (i g1 : Nat) (V V1 U : World) : Prop where
  rd : RdI w g B n adj f U
  c13 : U.heap[g1]? = some (.cells #[.int .i64 i] 3 (0, 0))
  sv : SetAt U V.heap.size F
  sz : V1.heap.size ≤ U.heap.size
  bl : ∀ j, j < V1.heap.size ∧ j ≠ B + 1 → U.heap[j]? = V1.heap[j]?
  os : U.os = V1.os
  tape : U.tape = V1.tape
  output : U.output = V1.output
theorem RiI.below {w V V1 U U' : World} {g B n i g1 : Nat} {adj : Nat → Nat → Bool} {f : Nat → Int} {F : Nat → Bool} (h : RiI w g B n adj f F i g1 V V1 U) (hg : g < B) (h1 : w.heap.size ≤ B ∧ B + 5 ≤ V1.heap.size) (h2 : g1 < V1.heap.size ∧ V.heap.size < V1.heap.size) (hb : Below V1.heap.size U U') : RiI w g B n adj f F i g1 V V1 U' :=
  ⟨h.rd.same hg h1.1 h1.2 hb, (hb.block _ h2.1).trans h.c13, h.sv.below hb h2.2, Nat.le_trans h.sz hb.size, fun j hj => (hb.block j hj.1).trans (h.bl j hj), hb.os.trans h.os, hb.tape.trans h.tape, hb.output.trans h.output⟩
set_option maxHeartbeats 4000000 in
set_option maxRecDepth 100000 in
theorem rounds_yes {N : Nat} {E : Pts} {ve v : Value} {s : Nat → Bool} {w : World} (h : GOk N E) (he : PairsOf w ve E) (hs : InN N s) (hv : IntsO w v (zsOf s)) :
    Calls Try.prog 20 #[.int .i64 N, ve, v] w fun e w' => ∃ R, e = .returned (.tuple #[.slice (some ⟨R, 0, none⟩) N N, .int .i64 0]) ∧ NumsI w' R N (roundsOf (adjOf E) N s) ∧ w.heap.size ≤ R ∧ Below w.heap.size w w' := by
  have hmx : Try.prog.follows .mixedOrders = true := by kernel_rfl
  have hN := h.n12
  have hN1 := h.n1
  have hmk := fun w => made23 hN w
  have q57 := readSet_yes he h.gr h.len hv hs.ok (zs_len s)
  have hcs : ∀ j, j < 12 → setOf (zsOf s) j = s j := fun j hj => setOf_zsOf s hj
  have hin := stgs_in h hs
  have hst := stops_kf (infl_force (adjOf E)) s
  have hfin : Keep (∀ j, j < N → rdR (stgs (fround (adjOf E)) (setOf (zsOf s)) (kfOf (fround (adjOf E)) s + 1)) j = roundsOf (adjOf E) N s j) := ⟨fun j hj => by
    unfold roundsOf
    rw [← rdR_stgs hN hin _ j hj]
    have hcg := stg_cg (infl_force (adjOf E)) hcs
    have : ∀ m j, j < 12 → rdR (stgs (fround (adjOf E)) (setOf (zsOf s)) m) j = rdR (stgs (fround (adjOf E)) s m) j := fun m => by
      induction m with
      | zero => intro j _; rfl
      | succ m ih =>
        intro j hj
        rw [stgs_succ, stgs_succ, rdR_snoc, rdR_snoc]
        unfold upR
        rw [ih j hj]
        simp only
        rw [hcg m j hj]
    exact this _ j (by omega)⟩
  have hin2 : Keep (∀ m, InN N (stg (fround (adjOf E)) (setOf (zsOf s)) m)) := ⟨fun m j h1 h2 => by
    rw [stg_cg (infl_force (adjOf E)) hcs m j h2]; exact hin m j h1 h2⟩
  have hst2 := stops_kf (infl_force (adjOf E)) (setOf (zsOf s))
  rw [kf_cg (infl_force (adjOf E)) hcs] at hst2
  obtain ⟨S, hS⟩ : ∃ S, setOf (zsOf s) = S := ⟨_, rfl⟩
  rw [hS] at q57 hfin hin2 hst2
  obtain ⟨K, hK⟩ : ∃ K, kfOf (fround (adjOf E)) s = K := ⟨_, rfl⟩
  rw [hK] at hfin hst2
  have q61 := Keep.mk (fun (g : Nat) (w : World) => stages_any S 59 #[.pointer (some ⟨g, 0, none⟩)] #[] w)
  have hhk := Keep.mk h
  clear hst hin hcs hS hK he hv hs h
  unfold setV sc at q57
  refine (callsIn_wide (n := 0)).1 ?_
  refine callsIn_of_wp_marks Try.func20 rfl trivial ?_ rfl
  simp only [Try.ntmps20, List.size_toArray, List.length_cons, List.length_nil, Nat.reduceAdd, Nat.reduceSub, Array.replicate_succ, Array.replicate_zero, List.push_toArray, List.append_toArray, List.nil_append, List.cons_append]
  refine wpIn_wide.2 ?_
  go_wp2_with (first
    | (go_at_call 57; (with_reducible refine q57.mono ?_); rintro e w5 ⟨g, rfl, hg5, hgl, hb5⟩
       obtain ⟨wa, hwa⟩ : ∃ wa, w5.alloc (.cells (sc S) 79) = wa := ⟨_, rfl⟩
       obtain ⟨B, hB⟩ : ∃ B, w5.heap.size = B := ⟨_, rfl⟩
       have ba : Below B w5 wa := by rw [← hwa, ← hB]; exact (Below.refl _ _).alloc (Nat.le_refl _) _
       have sa : wa.heap.size = B + 1 := by rw [← hwa, ← hB]; simp
       have fa : SetAt wa B S := by rw [← hwa, ← hB]; exact SetAt.new _ _
       obtain ⟨wb, hwb⟩ : ∃ wb, wa.alloc (.cells (intZ N) 3) = wb := ⟨_, rfl⟩
       have bb : Below (B + 1) wa wb := by rw [← hwb, ← sa]; exact (Below.refl _ _).alloc (Nat.le_refl _) _
       have sb : wb.heap.size = B + 1 + 1 := by rw [← hwb]; simp [sa]
       have fb : NumsI wb (B + 1) N (fun _ => 0) := by rw [← hwb, ← sa]; exact NumsI.new wa (intZ_at N).1 (intZ_at N).2
       obtain ⟨wc, hwc⟩ : ∃ wc, wb.alloc (.cells #[.slice (some ⟨B + 1, 0, none⟩) N N] 23) = wc := ⟨_, rfl⟩
       have bc : Below (B + 1 + 1) wb wc := by rw [← hwc, ← sb]; exact (Below.refl _ _).alloc (Nat.le_refl _) _
       have sd : wc.heap.size = B + 1 + 1 + 1 := by rw [← hwc]; simp [sb]
       have fc : wc.heap[B + 1 + 1]? = some (.cells #[.slice (some ⟨B + 1, 0, none⟩) N N] 23 (0, 0)) := by rw [← sb, ← hwc]; exact World.alloc_heap_new wb _
       have c11 : wc.cell? ⟨B + 1 + 1, 0, none⟩ = some (.slice (some ⟨B + 1, 0, none⟩) N N) := by simp [World.cell?, fc]
       have hgB := hg5.lt
       rw [hB] at hgB
       have hwB : w.heap.size ≤ B := by have := hb5.size; omega
       have bab : Below B w5 wc := (ba.trans (bb.mono (by omega))).trans (bc.mono (by omega))
       have hJ0 : Keep (RdJ w g B N (adjOf E) S (fun j => if j < 0 then -1 else 0) wc) := ⟨⟨hg5.below bab hgB, (fa.below bb (by omega)).below bc (by omega), (fb.keep (bc.block _ (by omega))).fn (fun j hj => by simp), fc, hb5.trans (bab.mono hwB), sd⟩⟩
       have hwBk := Keep.mk hwB
       have hsk := Keep.mk (And.intro sa sb)
       clear hg5 hgl hb5 ba fa bb fb bc fc bab sa sb sd hwB
       unfold sc at hwa))
  try rw [hsk.out.1, hsk.out.2]
  try rw [hwc]
  clear hsk
  go_loopw [30] (fun i wr => ∃ k : Nat, k ≤ N ∧ i = .int .i64 k ∧ Keep (RdJ w g B N (adjOf E) S (fun j => if j < k then -1 else 0) wr)) (fun i _ => N - (intOf i).toNat)
  case atStart => exact ⟨0, by omega, rfl, hJ0⟩
  case round =>
    obtain ⟨k, hk, rfl, hJ⟩ := hrel
    by_cases hlt : k < N
    · have hw1 : IntKind.i64.wrap ((k : Int) + 1) = (k : Int) + 1 := IntWalk.i64_in _ (by omega)
      have hlt' : (k : Int) < (N : Int) := by omega
      have hk0 : ¬ (k : Int) < 0 := by omega
      obtain ⟨cG, fG⟩ := hJ.out.ns.cell hlt
      have c12 : wr.cell? ⟨B + 1 + 1, 0, none⟩ = some (.slice (some ⟨B + 1, 0, none⟩) N N) := by simp [World.cell?, hJ.out.t11]
      have hwB := hwBk.out
      have hset := Keep.mk (hJ.out.set (f' := fun j => if j < k + 1 then -1 else 0) hgB hwB hlt (x := -1) (by simp) (fun j hj hne => by
        by_cases e : j < k
        · rw [if_pos e, if_pos (by omega)]
        · rw [if_neg e, if_neg (by omega)]))
      clear hwB hJ
      go_wp2
      exact ⟨⟨k + 1, by omega, by go_num, hset⟩, by simp [intOf]; omega⟩
    · obtain rfl : k = N := by omega
      have hlt' : ¬ (k : Int) < (k : Int) := by omega
      have hJ1 : Keep (RdJ w g B k (adjOf E) S (rdR []) wr) := ⟨⟨hJ.out.gr, hJ.out.t9, hJ.out.ns.fn (fun j hj => by show (-1 : Int) = _; rw [if_pos hj]), hJ.out.t11, hJ.out.bw, hJ.out.sz⟩⟩
      obtain ⟨x0, x1, x2, x3, x4, x5, x6, x7, x8, x9, x10, x11⟩ := hJ.out.t9.c12
      obtain ⟨wd, hwd⟩ : ∃ wd, wr.alloc (.cells (sc S) 79) = wd := ⟨_, rfl⟩
      obtain ⟨we, hwe⟩ : ∃ we, wd.alloc (.cells #[.func (.func 59) #[.pointer (some ⟨g, 0, none⟩)] #[]] 93) = we := ⟨_, rfl⟩
      have q6 := q61.out g wr
      rw [hwd, hwe, hJ.out.sz] at q6
      clear hJ hJ0
      unfold setV sc at q6
      go_wp2_with (first
        | (go_at_call 61; (with_reducible refine q6.mono ?_); rintro e w6 ⟨rfl, hw6⟩; rw [hw6]; clear hw6 w6))
      refine (wpIn_wide (n := 0)).1 ?_
      have hb2 : Below wr.heap.size wr we := by
        have z1 : wd.heap.size = wr.heap.size + 1 := by rw [← hwd]; simp
        have b1 : Below wr.heap.size wr wd := by rw [← hwd]; exact (Below.refl _ _).alloc (Nat.le_refl _) _
        have b2 : Below wr.heap.size wd we := by rw [← hwe]; exact (Below.refl _ _).alloc (by omega) _
        exact b1.trans b2
      have hd0 : SetAt we (B + 1 + 1 + 1) S := by
        have n1 : SetAt wd wr.heap.size S := by rw [← hwd]; exact SetAt.new _ _
        rw [hJ1.out.sz] at n1
        have b2 : Below wd.heap.size wd we := by rw [← hwe]; exact (Below.refl _ _).alloc (Nat.le_refl _) _
        exact n1.after b2
      have hse : we.heap.size = B + 5 := by rw [← hwe, ← hwd]; simp [hJ1.out.sz]
      have hfe : we.heap[B + 4]? = some (.cells #[.func (.func 59) #[.pointer (some ⟨g, 0, none⟩)] #[]] 93 (0, 0)) := by
        have z1 : wd.heap.size = B + 4 := by rw [← hwd]; simp [hJ1.out.sz]
        rw [← z1, ← hwe]; exact World.alloc_heap_new _ _
      have hI0 : RdI w g B k (adjOf E) (rdR []) we := ⟨(hJ1.out.gr.below hb2 (by rw [hJ1.out.sz]; omega)).at, hJ1.out.ns.below hb2, (hb2.block _ (by rw [hJ1.out.sz]; omega)).trans hJ1.out.t11, hfe, hJ1.out.bw.trans (hb2.mono hJ1.out.bw.size), by omega⟩
      have hwB := hwBk.out
      have hq := rnd_force g k (adjOf E)
      have hI0k := Keep.mk hI0
      have hd0k := Keep.mk hd0
      clear hwd hwe x0 x1 x2 x3 x4 x5 x6 x7 x8 x9 x10 x11 hJ1 hb2 hfe hI0 hd0 q57 q61 q6
      refine Pv.range_givesV (gf := 82) (lb := #[.pointer (some ⟨B + 1 + 1 + 1, 0, none⟩), .pointer (some ⟨B + 1 + 1 + 1 + 1, 0, none⟩)]) (by first | rfl | (simp; done)) (enters_of Try.func82 (by kernel_rfl) rfl) (encs := encS) (xs := stgs (fround (adjOf E)) S (K + 1))
        (R := fun V => GraphAt V g k (adjOf E) ∧ V.cell? ⟨B + 4, 0, none⟩ = some (.func (.func 59) #[.pointer (some ⟨g, 0, none⟩)] #[])) (fun x => rfl) (fun i => i = B + 3) (by intro k hk; omega) (fun W1' h1 hb1 => stages_gives (R := fun V => GraphAt V g k (adjOf E) ∧ V.cell? ⟨B + 4, 0, none⟩ = some (.func (.func 59) #[.pointer (some ⟨g, 0, none⟩)] #[])) ⟨hq.eg, fun s' W' h => hq.call s' W' h.1⟩ hst2 W1' (fun W' h => h.2) (hd0k.out.below hb1 (by omega)))
        (fun _ _ => true) .ret .ret (.inl ⟨rfl, rfl⟩)
        (fun pre V => RdI w g B k (adjOf E) (rdR pre) V) (fun pre V => RdI w g B k (adjOf E) (rdR pre) V) ?_ ?_ ?_ ?_ hI0k.out
        (fun x a' V => ∃ g1, a' = { tmps := #[.int .i64 k, ve, v, undef, undef, undef, .slice none 0 0, .int .i64 0, .pointer (some ⟨g, 0, none⟩), .pointer (some ⟨B, 0, none⟩), .bool true, .pointer (some ⟨B + 1 + 1, 0, none⟩), u12, .pointer (some ⟨g1, 0, none⟩), .pointer (some ⟨g1 + 1, 0, none⟩), undef, .tuple #[.pointer (some ⟨g, 0, none⟩), .agg #[.bool (S 0), .bool (S 1), .bool (S 2), .bool (S 3), .bool (S 4), .bool (S 5), .bool (S 6), .bool (S 7), .bool (S 8), .bool (S 9), .bool (S 10), .bool (S 11)], .bool true], .int .i64 k, ve, v, .tuple #[.pointer (some ⟨g, 0, none⟩), .agg #[.bool (S 0), .bool (S 1), .bool (S 2), .bool (S 3), .bool (S 4), .bool (S 5), .bool (S 6), .bool (S 7), .bool (S 8), .bool (S 9), .bool (S 10), .bool (S 11)], .bool true], .pointer (some ⟨g, 0, none⟩), .agg #[.bool (S 0), .bool (S 1), .bool (S 2), .bool (S 3), .bool (S 4), .bool (S 5), .bool (S 6), .bool (S 7), .bool (S 8), .bool (S 9), .bool (S 10), .bool (S 11)], .bool true, .bool true, .bool false, .int .i64 k, .slice (some ⟨B + 1, 0, none⟩) k k, .slice (some ⟨B + 1, 0, none⟩) k k, .int .i64 k, .int .i64 k, .bool false, u32, u33, u34, u35, u36, .agg #[.bool (S 0), .bool (S 1), .bool (S 2), .bool (S 3), .bool (S 4), .bool (S 5), .bool (S 6), .bool (S 7), .bool (S 8), .bool (S 9), .bool (S 10), .bool (S 11)], .pointer (some ⟨g, 0, none⟩), .func (.func 59) #[.pointer (some ⟨g, 0, none⟩)] #[], .func (.func 82) #[] #[.pointer (some ⟨B + 1 + 1 + 1, 0, none⟩), .pointer (some ⟨B + 1 + 1 + 1 + 1, 0, none⟩)], .int .i64 x.1, .agg #[.bool (x.2 0), .bool (x.2 1), .bool (x.2 2), .bool (x.2 3), .bool (x.2 4), .bool (x.2 5), .bool (x.2 6), .bool (x.2 7), .bool (x.2 8), .bool (x.2 9), .bool (x.2 10), .bool (x.2 11)], undef, undef, undef, undef, undef, undef, undef, undef, undef, undef, undef, undef, undef], defers := [] } ∧ V.heap[g1]? = some (.cells #[.int .i64 x.1] 3 (0, 0)) ∧ SetAt V (g1 + 1) x.2 ∧ B + 7 ≤ g1)
        ?_ ?assign ?body ?done ?stop
      · intro pre V V' h hk; rw [hse] at hk; exact h.keepsL hgB hwB hk
      · intro pre V V' h hk; rw [hse] at hk; exact h.keepsL hgB hwB hk
      · intro pre V h; exact ⟨h.gr, by simp [World.cell?, h.fv]⟩
      · intro pre V h; exact ⟨h.gr, by simp [World.cell?, h.fv]⟩
      · rintro x a' V V' ⟨g1, rfl, h1, h2, h3⟩ hs hk
        rw [hse] at hk
        exact ⟨g1, rfl, (hk.block g1 (by have := h2.lt; omega) (by omega)).trans h1, (hk.block (g1 + 1) h2.lt (by omega)).trans h2, h3⟩
      case assign =>
        intro l2 pre x V K hi hsz2 hK
        obtain ⟨V0, hV0⟩ : ∃ V0, V.alloc (.cells #[.int .i64 x.1] 3) = V0 := ⟨_, rfl⟩
        obtain ⟨V1, hV1⟩ : ∃ V1, V0.alloc (.cells (sc x.2) 79) = V1 := ⟨_, rfl⟩
        have hb0 : Below V.heap.size V V0 := by rw [← hV0]; exact (Below.refl _ _).alloc (Nat.le_refl _) _
        have hs0 : V0.heap.size = V.heap.size + 1 := by rw [← hV0]; simp
        have hn0 : V0.heap[V.heap.size]? = some (.cells #[.int .i64 x.1] 3 (0, 0)) := by rw [← hV0]; exact World.alloc_heap_new _ _
        have hb1 : Below V0.heap.size V0 V1 := by rw [← hV1]; exact (Below.refl _ _).alloc (Nat.le_refl _) _
        have hn1 : SetAt V1 (V.heap.size + 1) x.2 := by rw [← hV1, ← hs0]; exact SetAt.new _ _
        have hn2 := (hb1.block V.heap.size (by omega)).trans hn0
        have hkk := Keep.mk (And.intro (hb0.trans (hb1.mono (by omega))) (And.intro hn1 hn2))
        clear hb0 hb1 hn0 hn1 hn2
        unfold encS setV
        unfold sc at hV1 ⊢
        gi_wp2
        try rw [hV0]
        try rw [hs0]
        try rw [hV1]
        exact hK _ _ hkk.out.1 ⟨V.heap.size, rfl, hkk.out.2.2, hkk.out.2.1, by omega⟩
      case body =>
        rintro l2 pre x a' V hi ⟨g1, rfl, hg1, hg2, hg7⟩ hsz2 ⟨post, hpost⟩ hl2 ⟨rl, hrl⟩
        obtain ⟨i, F⟩ := x
        have hFin : InN k F := by
          have hm : (i, F) ∈ stgs (fround (adjOf E)) S (K + 1) := by rw [hpost]; simp
          unfold stgs at hm
          rw [List.mem_map] at hm
          obtain ⟨m, _, he⟩ := hm
          have he2 := congrArg Prod.snd he
          simp only at he2
          rw [← he2]
          exact hin2.out m
        simp only at hg1 hg2
        rw [rdR_snoc]
        have hup := upR_eq i F (rdR pre)
        obtain ⟨f, hf⟩ : ∃ f, rdR pre = f := ⟨_, rfl⟩
        rw [hf] at hi hup ⊢
        have hg2l := hg2.lt
        obtain ⟨y0, y1, y2, y3, y4, y5, y6, y7, y8, y9, y10, y11⟩ := hg2.c12
        obtain ⟨V1, hV1⟩ : ∃ V1, V.alloc (.cells (sc F) 79) = V1 := ⟨_, rfl⟩
        have hb1 : Below V.heap.size V V1 := by rw [← hV1]; exact (Below.refl _ _).alloc (Nat.le_refl _) _
        have hs1 : V1.heap.size = V.heap.size + 1 := by rw [← hV1]; simp
        have hn1 : SetAt V1 V.heap.size F := by rw [← hV1]; exact SetAt.new _ _
        have q := vertices_any F V
        rw [hV1] at q
        have hi1 := hi.after hb1
        have hg1' := (hb1.block g1 (by omega)).trans hg1
        have hrl1 := (hb1.block _ (Array.getElem?_eq_some_iff.1 hrl).1).trans hrl
        have hkk := Keep.mk (And.intro hb1 (And.intro hs1 (And.intro hn1 (And.intro hi1 hg1'))))
        have hrk := Keep.mk hrl1
        clear hb1 hs1 hn1 hi hi1 hg1 hg1' hg2 hV1 hrl hrl1
        unfold setV sc at q
        gi_wp2_with (first
          | (refine ⟨trivial, rfl, ?_⟩; gi_at_call 62; refine (CallsIn.inRound l2 (callsIn_wide.2 q)).mono ?_; rintro e V5 ⟨rfl, hV5⟩; rw [hV5]; clear hV5 V5))
        clear y0 y1 y2 y3 y4 y5 y6 y7 y8 y9 y10 y11 q
        obtain ⟨hb1, hs1, hn1, hi1, hg1⟩ := hkk.out
        refine Nst.range_givesN (l₀ := l2) (r₀ := rl) hrk.out (gf := 83) (lb := #[.pointer (some ⟨V.heap.size, 0, none⟩)]) rfl (enters_of Try.func83 (by kernel_rfl) rfl) (encs := encK) (xs := vsTo F 12)
          (R := fun U => SetAt U V.heap.size F) (fun u => rfl) (fun W1' _ _ => vertices_gives W1')
          (fun _ _ => true) .ret .ret (.inl ⟨rfl, rfl⟩)
          (fun us U => RiI w g B k (adjOf E) (rin i f us) F i g1 V V1 U) (fun us U => RiI w g B k (adjOf E) (rin i f us) F i g1 V V1 U)
          ?_ ?_ (fun us U hU => hU.sv) (fun us U hU => hU.sv) ⟨hi1, hg1, hn1, Nat.le_refl _, fun j hj => rfl, rfl, rfl, rfl⟩
          (fun u a' U => a' = { tmps := #[.int .i64 k, ve, v, undef, undef, undef, .slice none 0 0, .int .i64 0, .pointer (some ⟨g, 0, none⟩), .pointer (some ⟨B, 0, none⟩), .bool true, .pointer (some ⟨B + 1 + 1, 0, none⟩), u12, .pointer (some ⟨g1, 0, none⟩), .pointer (some ⟨g1 + 1, 0, none⟩), .int .i64 (u : Nat), .tuple #[.pointer (some ⟨g, 0, none⟩), .agg #[.bool (S 0), .bool (S 1), .bool (S 2), .bool (S 3), .bool (S 4), .bool (S 5), .bool (S 6), .bool (S 7), .bool (S 8), .bool (S 9), .bool (S 10), .bool (S 11)], .bool true], .int .i64 k, ve, v, .tuple #[.pointer (some ⟨g, 0, none⟩), .agg #[.bool (S 0), .bool (S 1), .bool (S 2), .bool (S 3), .bool (S 4), .bool (S 5), .bool (S 6), .bool (S 7), .bool (S 8), .bool (S 9), .bool (S 10), .bool (S 11)], .bool true], .pointer (some ⟨g, 0, none⟩), .agg #[.bool (S 0), .bool (S 1), .bool (S 2), .bool (S 3), .bool (S 4), .bool (S 5), .bool (S 6), .bool (S 7), .bool (S 8), .bool (S 9), .bool (S 10), .bool (S 11)], .bool true, .bool true, .bool false, .int .i64 k, .slice (some ⟨B + 1, 0, none⟩) k k, .slice (some ⟨B + 1, 0, none⟩) k k, .int .i64 k, .int .i64 k, .bool false, u32, u33, u34, u35, u36, .agg #[.bool (S 0), .bool (S 1), .bool (S 2), .bool (S 3), .bool (S 4), .bool (S 5), .bool (S 6), .bool (S 7), .bool (S 8), .bool (S 9), .bool (S 10), .bool (S 11)], .pointer (some ⟨g, 0, none⟩), .func (.func 59) #[.pointer (some ⟨g, 0, none⟩)] #[], .func (.func 82) #[] #[.pointer (some ⟨B + 1 + 1 + 1, 0, none⟩), .pointer (some ⟨B + 1 + 1 + 1 + 1, 0, none⟩)], .int .i64 i, .agg #[.bool (F 0), .bool (F 1), .bool (F 2), .bool (F 3), .bool (F 4), .bool (F 5), .bool (F 6), .bool (F 7), .bool (F 8), .bool (F 9), .bool (F 10), .bool (F 11)], .agg #[.bool (F 0), .bool (F 1), .bool (F 2), .bool (F 3), .bool (F 4), .bool (F 5), .bool (F 6), .bool (F 7), .bool (F 8), .bool (F 9), .bool (F 10), .bool (F 11)], .func (.func 83) #[] #[.pointer (some ⟨V.heap.size, 0, none⟩)], .int .i64 (u : Nat), undef, undef, undef, undef, undef, undef, undef, undef, undef, undef], defers := [] })
          ?_ ?assign2 ?body2 ?done2 ?stop2
        · intro us U U' hU hb; exact hU.below hgB ⟨by omega, by omega⟩ ⟨by omega, by omega⟩ hb
        · intro us U U' hU hb; exact hU.below hgB ⟨by omega, by omega⟩ ⟨by omega, by omega⟩ hb
        · rintro u a' U U' hU _; exact hU
        case assign2 =>
          intro l3 us u U K hU hsz3 hK
          unfold encK
          gi_wp2
          exact hK _ _ (Below.refl U.heap.size U) (by first | rfl | simp)
        case body2 =>
          rintro l3 us u a' U hU rfl hsz3 ⟨post2, hpost2⟩
          have hu := vsTo_lt (s := F) (k := 12) (show u ∈ vsTo F 12 by rw [hpost2]; simp)
          have huk : u < k := by
            rcases Nat.lt_or_ge u k with h' | h'
            · exact h'
            · have := hFin u h' hu.1
              rw [hu.2] at this; cases this
          have huk' : (u : Int) < (k : Int) := by omega
          have hu0 : ¬ (u : Int) < 0 := by omega
          have c12 : U.cell? ⟨B + 1 + 1, 0, none⟩ = some (.slice (some ⟨B + 1, 0, none⟩) k k) := by simp [World.cell?, hU.rd.t11]
          have c13 : U.cell? ⟨g1, 0, none⟩ = some (.int .i64 i) := by simp [World.cell?, hU.c13]
          rw [rin_snoc]
          obtain ⟨f', hf'⟩ : ∃ f', rin i f us = f' := ⟨_, rfl⟩
          rw [hf'] at hU ⊢
          obtain ⟨cu, fu⟩ := hU.rd.ns.cell huk
          obtain ⟨z, hz⟩ : ∃ z, f' u = z := ⟨_, rfl⟩
          rw [hz] at cu
          by_cases hneg : z < 0
          · have hset : RiI w g B k (adjOf E) (up1 i f' u) F i g1 V V1 (U.setCell ⟨B + 1, u, none⟩ (.int .i64 i)) := by
              have ho : ∀ i', i' ≠ B + 1 → (U.setCell ⟨B + 1, u, none⟩ (.int .i64 i)).heap[i']? = U.heap[i']? := fun i' hi => Below.heap_setCell U ⟨B + 1, u, none⟩ (.int .i64 i) i' hi
              exact ⟨hU.rd.set hgB hwB huk (by unfold up1; rw [if_pos ⟨rfl, by omega⟩]) (fun j hj hne => by unfold up1; rw [if_neg (fun h => hne h.1)]), (ho _ (by omega)).trans hU.c13, hU.sv.other (by omega), by simpa [World.setCell] using hU.sz, fun j hj => (ho j hj.2).trans (hU.bl j hj), hU.os, hU.tape, hU.output⟩
            have hfr : From V1.heap.size U (U.setCell ⟨B + 1, u, none⟩ (.int .i64 i)) := ⟨by simp [World.setCell], fun j h1 h2 => Below.heap_setCell U ⟨B + 1, u, none⟩ (.int .i64 i) j (by show j ≠ B + 1; omega)⟩
            have hsk := Keep.mk (And.intro hset hfr)
            clear hset hfr hU hf' hz hi1 hg1 hn1 hb1 hkk hrk hup hf
            gi_wp2
            exact ⟨hsk.out.1, by rw [← hs1]; exact hsk.out.2, rfl, rfl⟩
          · have hset : RiI w g B k (adjOf E) (up1 i f' u) F i g1 V V1 U := by
              have e : up1 i f' u = f' := by
                funext j
                unfold up1
                rw [if_neg (fun h => hneg (by omega))]
              rw [e]; exact hU
            have hsk := Keep.mk hset
            clear hset hU hf' hz hi1 hg1 hn1 hb1 hkk hrk hup hf
            gi_wp2
            exact ⟨hsk.out, From.refl _ _⟩
        case done2 =>
          intro U hU hgo hsz3
          gi_wp2
          exact ⟨⟨hU.rd.gr, hU.rd.ns.fn (fun j hj => hup j (by omega)), hU.rd.t11, hU.rd.fv, hU.rd.bw, hU.rd.sz⟩, ⟨by omega, (hU.bl _ ⟨by omega, by omega⟩).trans (hb1.block _ (by omega)), (hU.bl _ ⟨by omega, by omega⟩).trans (hb1.block _ (by omega)), (hU.bl _ ⟨by omega, by omega⟩).trans (hb1.block _ (by omega))⟩, hU.os.trans hb1.os, hU.tape.trans hb1.tape, hU.output.trans hb1.output⟩
        case stop2 =>
          intro V p x post _ _ h
          cases h
      case done =>
        intro V hi hgo hsz2 hD
        have c11 : V.cell? ⟨B + 1 + 1, 0, none⟩ = some (.slice (some ⟨B + 1, 0, none⟩) k k) := by simp [World.cell?, hi.t11]
        have hik := Keep.mk hi
        clear hi
        gi_wp2
        go_wp2
        refine Qr.leaves_mark hD fun w' hk => ⟨.tuple #[.slice (some ⟨B + 1, 0, none⟩) k k, .int .i64 0], by simp [results, Try.results20, go_sem], B + 1, rfl, ?_, by omega, ?_⟩
        · have hsz := hik.out.sz
          exact (hik.out.ns.keep (hk.block _ (by omega) (by omega) (by omega))).fn (fun j hj => (hfin.out j hj).symm)
        · exact hik.out.bw.trans (hk.below (by omega) (by have := hik.out.sz; omega))
      case stop =>
        intro V p x post _ _ h
        cases h
end Go.Proofs.Yteekigpdiklppaa

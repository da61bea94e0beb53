import Derived.Test.YtifbiamfandjnabMovedMath
import Derived.Test.YtifbiamfandjnabTame
import Derived.Test.YtifbiamfandjnabAwake
import Derived.Test.YtifbiamfandjnabOpenArgs
import Derived.Deep.QuietTactic
import Derived.BigQuiet
import Derived.Test.YtifbiamfandjnabSeqE
set_option linter.unusedSimpArgs false
set_option linter.unusedVariables false
namespace Go.Proofs.Ytifbiamfandjnab
open Go Go.Proofs Go.RowKit Go.Seq Gap
namespace Moved
variable {P : Program} {ops : Array Oper} {C : (Nat → Bool) → World → Prop} {k : Nat} {Q : Act → Prop} {o : Oper} {rest : List Oper} {a : Act} {v : Value}
/-- An operation whose guard does not ask for it. -/
theorem lex_skip (hw : Region.wanted o (yielded ops a.tmps) = false) (hk : ∀ s w, C s w → C (Many.upd s k) w) (h : Many.lexT P ops C Q (k + 1) rest (a.put o.dst undef)) : Many.lexT P ops C Q k (o :: rest) a := ⟨undef, .inr ⟨hw, hk, rfl⟩, h⟩
def Cq (W : World) (_ : Nat → Bool) (w : World) : Prop := ∃ q, w = W.drewN q
theorem Cq.keep {W : World} {k : Nat} : ∀ s w, Cq W s w → Cq W (Many.upd s k) w := fun _ _ h => h
theorem rd {P : Program} {W : World} {k : Nat} {o : Oper} {a : Act} {v : Value} (h : ∀ q, (execOp a.eval o).run P (W.drewN q) = .ok (.value v) (W.drewN q)) : Many.Tr P (Cq W) k o a v :=
  Many.tr_read (fun w => ∃ q, w = W.drewN q) (fun _ _ h => h) (fun _ _ h => h) (fun w ⟨q, hq⟩ => by rw [hq]; exact h q)
end Moved
open Moved
set_option maxHeartbeats 4000000 in
set_option maxRecDepth 100000 in
theorem moved_any {n tt : Int} {v : Value} {zs : List Int} {w : World} (hv : ArgInts w v zs) :
    Calls Try.prog 3 #[.int .i64 n, v, .int .i64 tt] w fun e w' => e = .returned (.bool true) ∧ Below w.heap.size w w' := by
  have q6 := tame_any (n := n) hv
  have q7 := fun w => mod_any tt (m := 1000000) (by omega) (by omega) w
  clear hv
  go_enter Try.func3, Try.ntmps3
  go_wp2_with (first
    | (go_at_call 6; refine q6.mono ?_; rintro e w1 ⟨N, v', L, rfl, hok, hi1, hb1⟩
       obtain ⟨hN1, hN2, hm1, hm2, hLb⟩ := ok_parts hok
       obtain ⟨m, hm⟩ : ∃ m, L.length = m := ⟨_, rfl⟩
       rw [hm] at hm1 hm2
       obtain ⟨A, cap, hve, _⟩ := id hi1
       rw [hm] at hve
       subst hve
       have hLbk := Keep.mk hLb
       clear q6 hLb)
    | (go_at_call 7; refine (q7 _).mono ?_; rintro e w0 ⟨⟨r, hr, rfl⟩, rfl⟩
       have hy1 : In64 ((r : Int) - 500000) := by unfold In64; omega
       have hy2 : In64 (-((r : Int) - 500000)) := by unfold In64; omega
       obtain ⟨y, hy⟩ : ∃ y, Keep ((r : Int) - 500000 = y) := ⟨_, ⟨rfl⟩⟩
       have ey : IntKind.i64.wrap ((r : Int) - 500000) = y := by rw [← hy.out]; exact IntWalk.i64_in _ (by omega)
       have ey2 : wrap64 ((r : Int) - 500000) = y := by rw [← hy.out]; unfold wrap64; omega
       have ez : IntKind.i64.wrap (-y) = -y := by rw [← hy.out]; exact IntWalk.i64_in _ (by omega)
       rw [hy.out] at hy1 hy2
       have hok2 := movL_ok y hok
       have hback := movL_back y hok
       have q8a := fun (w : World) (v : Value) (h : IntsAt w v L) => move_any (y := y) h hy1 hok
       have q8b := fun (w : World) (v : Value) (h : IntsAt w v (movL N L y)) => move_any (y := -y) h hy2 hok2
       rw [hback] at q8b
       have q9a := fun (w : World) (v : Value) (h : IntsAt w v L) => gaps_any h hok
       have q9b := fun (w : World) (v : Value) (h : IntsAt w v (movL N L y)) => gaps_any h hok2
       have hgm := Keep.mk (fun K (h : GapsOf N (movL N L y) K) => gaps_moved y hok h)
       have hfacts := Keep.mk (fun K (h : GapsOf N L K) => moved_facts hok h)
       have hml : (movL N L y).length = m := by rw [← hm]; simp [movL]
       obtain ⟨ML, hML⟩ : ∃ ML, movL N L y = ML := ⟨_, rfl⟩
       rw [hML] at q8a q8b q9b hgm hml
       clear q7 hok2 hback hML hy hy1 hy2 hok)
    | (go_at_call 8; (with_reducible refine (q8a _ _ hi1).mono ?_); rintro e w2 ⟨v2, rfl, hj2, hb2⟩
       have hi2 := ints_below hi1 hb2
       have hbw2 : Below w.heap.size w w2 := hb1.trans (hb2.mono hb1.size)
       clear q8a hi1 hb1 hb2)
    | (go_at_call 8; (with_reducible refine (q8b _ _ hj2).mono ?_); rintro e w3 ⟨v3, rfl, hk3, hb3⟩
       have hi3 := ints_below hi2 hb3
       have hj3 := ints_below hj2 hb3
       have hbw3 : Below w.heap.size w w3 := hbw2.trans (hb3.mono hbw2.size)
       clear q8b hi2 hj2 hb3 hbw2)
    | (go_at_call 9; (with_reducible refine (q9a _ _ hi3).mono ?_); rintro e w4 ⟨v4, G, rfl, hG, hG60, hg4, hb4⟩
       have hi4 := ints_below hi3 hb4
       have hj4 := ints_below hj3 hb4
       have hk4 := ints_below hk3 hb4
       have hbw4 : Below w.heap.size w w4 := hbw3.trans (hb4.mono hbw3.size)
       clear q9a hi3 hj3 hk3 hb4 hbw3)
    | (go_at_call 9; (with_reducible refine (q9b _ _ hj4).mono ?_); rintro e w5 ⟨v5, G2, rfl, hG2, hG260, hg5, hb5⟩
       obtain rfl := gaps_unique (hgm.out _ hG2) hG
       have hi5 := ints_below hi4 hb5
       have hk5 := ints_below hk4 hb5
       have hh5 := ints_below hg4 hb5
       have hbw5 : Below w.heap.size w w5 := hbw4.trans (hb5.mono hbw4.size)
       obtain ⟨f1, f2, f3, f4, f5⟩ := hfacts.out _ hG
       obtain ⟨gl, hgl⟩ : ∃ gl, G2.length = gl := ⟨_, rfl⟩
       obtain ⟨B, capB, hvB, _⟩ := id hh5
       rw [hgl] at hvB f1 f2 f3 f5
       subst hvB
       have hgl60 : gl ≤ 60 := by omega
       have hg0 : ¬ gl = 0 := by omega
       have hg0' : ((gl : Int) == 0) = false := by rw [beq_eq_false_iff_ne]; omega
       clear q9b hi4 hj4 hk4 hg4 hb5 hbw4 hG hG2 hgm)
    | (go_at_call 10; (with_reducible refine (ints_any (IntsAt.off hk5) (IntsAt.off hi5) (by omega)).mono ?_); rintro e w6 ⟨rfl, n6, rfl⟩
       rw [show decide (L = L) = true by simp]
       have hi6 : IntsAt (w5.drewN n6) (.slice A m cap) L := hi5
       have hh6 : IntsAt (w5.drewN n6) (.slice B gl capB) G2 := hh5
       have hg6 : IntsAt (w5.drewN n6) v5 G2 := hg5
       have hbw6 : Below w.heap.size w (w5.drewN n6) := below_drewN hbw5 n6
       clear hk5 hi5 hh5 hg5 hbw5)
    | (go_at_call 10; (with_reducible refine (ints_any (IntsAt.off hh6) (IntsAt.off hg6) (by omega)).mono ?_); rintro e w7 ⟨rfl, n7, rfl⟩
       rw [show decide (G2 = G2) = true by simp]))
  obtain ⟨W, hW⟩ : ∃ W, w5 = W := ⟨_, rfl⟩
  rw [hW] at hi6 hh6 hbw6 hg6
  have hLc : Keep (∀ q k, k < m → ∃ g, A = some ⟨g, 0, none⟩ ∧ (W.drewN q).cell? ⟨g, k, none⟩ = some (.int .i64 (L.getD k 0))) := ⟨fun q k hk => by
    obtain ⟨A', cap', he, hc⟩ := hi6
    injection he with he1 he2 he3
    subst he1
    obtain ⟨g, hg, h⟩ := hc k (by omega)
    exact ⟨g, hg, h⟩⟩
  have hGc : Keep (∀ q k, k < gl → ∃ g, B = some ⟨g, 0, none⟩ ∧ (W.drewN q).cell? ⟨g, k, none⟩ = some (.int .i64 (G2.getD k 0))) := ⟨fun q k hk => by
    obtain ⟨A', cap', he, hc⟩ := hh6
    injection he with he1 he2 he3
    subst he1
    obtain ⟨g, hg, h⟩ := hc k (by omega)
    exact ⟨g, hg, h⟩⟩
  have hbW : Keep (∀ q, Below w.heap.size w (W.drewN q)) := ⟨fun q => ⟨hbw6.os, hbw6.tape, hbw6.output, hbw6.size, hbw6.block⟩⟩
  have hmk := Keep.mk hm
  have h2k := Keep.mk f2
  have h3k := Keep.mk f3
  have h45 : Keep (G2.getD 0 0 * (cntD L m : Int) ≤ N ∧ (N : Int) ≤ G2.getD (gl - 1) 0 * (cntD L m : Int)) := ⟨by rw [hm] at f4 f5; exact ⟨f4, f5⟩⟩
  rw [hW]
  clear hW hi6 hh6 hg6 hbw6 hm hgl f2 f3 f4 f5 hfacts hLbk hG60 hG260 hml
  go_loopw [16, 17] (fun c i wr => ∃ k : Nat, k ≤ m ∧ c = .int .i64 (cntD L k : Nat) ∧ i = .int .i64 k ∧ Keep (∃ q, wr = W.drewN q)) (fun _ i _ => m - (intOf i).toNat)
  case atStart => exact ⟨0, by omega, rfl, rfl, ⟨n6 + n7, by first | rfl | exact drewN_add _ _ _⟩⟩
  case round =>
    obtain ⟨k, hk, rfl, rfl, hq⟩ := hrel
    obtain ⟨q, rfl⟩ := hq.out
    have hck := cntD_le L k
    by_cases hlt : k < m
    · obtain ⟨g, rfl, _⟩ := hLc.out q k hlt
      obtain ⟨z, hz⟩ : ∃ z, Keep (L.getD k 0 = z) := ⟨_, ⟨rfl⟩⟩
      have hLg : Keep (∀ q k, k < m → (W.drewN q).cell? ⟨g, k, none⟩ = some (.int .i64 (L.getD k 0))) := ⟨fun q k hk => by
        obtain ⟨g', hg', h⟩ := hLc.out q k hk
        injection hg' with hg'; injection hg' with hg'
        rw [hg']; exact h⟩
      have hcs : Keep (cntD L (k + 1) = cntD L k + if (L.take k).contains z then 0 else 1) := ⟨by
        have : cntD L (k + 1) = cntD L k + if (L.take k).contains (L.getD k 0) then 0 else 1 := rfl
        rw [this, hz.out]⟩
      obtain ⟨c, hc⟩ : ∃ c, cntD L k = c := ⟨_, rfl⟩
      rw [hc] at hcs hck ⊢
      clear hc
      go_wp2
      go_loopw [18, 19] (fun f j wr => ∃ t : Nat, t ≤ k ∧ f = .bool (!((L.take t).contains z)) ∧ j = .int .i64 t ∧ Keep (∃ q, wr = W.drewN q)) (fun _ j _ => k - (intOf j).toNat)
      case atStart => exact ⟨0, by omega, by simp, rfl, ⟨q, rfl⟩⟩
      case round =>
        obtain ⟨t, ht, rfl, rfl, hq⟩ := hrel
        obtain ⟨q2, rfl⟩ := hq.out
        by_cases htk : t < k
        · have h1 := hLg.out q2 t (by omega)
          have h2 := hLg.out q2 k hlt
          rw [hz.out] at h2
          have hpush := takez (zs := L) (k := t) (by rw [hmk.out]; omega)
          obtain ⟨y, hy⟩ : ∃ y, L.getD t 0 = y := ⟨_, rfl⟩
          rw [hy] at h1 hpush
          have hpk := Keep.mk hpush
          have hy' := hy
          clear hpush
          clear hy
          cases hb : (L.take t).contains z with
          | false =>
            obtain ⟨d, hd⟩ : ∃ d, (y != z) = d := ⟨_, rfl⟩
            have hnew : Keep ((!((L.take (t + 1)).contains z)) = d) := ⟨by
              rw [hpk.out, List.contains_append, hb, ← hd]
              by_cases e : y = z
              · simp [e]
              · have e' : ¬ z = y := fun h => e h.symm
                simp [e, e', bne]⟩
            have hbk : (!false) = true := rfl
            rw [hbk]
            clear hb
            have htm : t < m := by omega
            have h1q := Keep.mk (fun q => hLg.out q t (by omega))
            rw [hy'] at h1q
            have h2q := Keep.mk (fun q => hLg.out q k hlt)
            rw [hz.out] at h2q
            clear h1 h2
            go_wp2
            have hmo : Try.prog.follows .mixedOrders = true := by kernel_rfl
            refine (wpIn_wide (n := 0)).1 ?_
            refine Many.region_many (Cq W) hmo (by kernel_rfl) (fun _ _ _ _ h => h) (fun s hs => ⟨q2 + 1, rfl⟩) ?_
            clear hLg hLc hGc hpk hcs h45 h2k h3k hmk
            iterate 5
              (refine Many.lex_want (by rfl) (rd (fun q => by (go_simp; try rfl))) ?_
               simp only [Act.put, List.setIfInBounds_toArray, List.set_cons_succ, List.set_cons_zero, Nat.reduceAdd])
            refine Many.lex_want (by rfl) (rd (v := Value.int .i64 y) (fun q => by (have h1 := h1q.out q; go_simp; try rfl))) ?_
            simp only [Act.put, List.setIfInBounds_toArray, List.set_cons_succ, List.set_cons_zero, Nat.reduceAdd]
            iterate 3
              (refine Many.lex_want (by rfl) (rd (fun q => by (go_simp; try rfl))) ?_
               simp only [Act.put, List.setIfInBounds_toArray, List.set_cons_succ, List.set_cons_zero, Nat.reduceAdd])
            refine Many.lex_want (by rfl) (rd (v := Value.int .i64 z) (fun q => by (have h1 := h2q.out q; go_simp; try rfl))) ?_
            simp only [Act.put, List.setIfInBounds_toArray, List.set_cons_succ, List.set_cons_zero, Nat.reduceAdd]
            refine Many.lex_want (by rfl) (rd (v := .bool d) (fun q => by (rw [← hd]; go_simp; try rfl))) ?_
            simp only [Act.put, List.setIfInBounds_toArray, List.set_cons_succ, List.set_cons_zero, Nat.reduceAdd]
            iterate 2
              (refine Many.lex_want (by rfl) (rd (fun q => by (go_simp; try rfl))) ?_
               simp only [Act.put, List.setIfInBounds_toArray, List.set_cons_succ, List.set_cons_zero, Nat.reduceAdd])
            refine Many.lex_nil fun s W' hs hC => ?_
            obtain ⟨q9, rfl⟩ := hC
            go_wp2
            exact ⟨⟨t + 1, by omega, by rw [hnew.out], by go_num, ⟨_, rfl⟩⟩, by simp [intOf]; omega⟩
          | true =>
            have hnew : Keep ((!((L.take (t + 1)).contains z)) = false) := ⟨by
              rw [hpk.out, List.contains_append, hb]; rfl⟩
            have hbk : (!true) = false := rfl
            rw [hbk]
            clear hb
            go_wp2
            have hmo : Try.prog.follows .mixedOrders = true := by kernel_rfl
            refine (wpIn_wide (n := 0)).1 ?_
            refine Many.region_many (Cq W) hmo (by kernel_rfl) (fun _ _ _ _ h => h) (fun s hs => ⟨q2 + 1, rfl⟩) ?_
            clear hLg hLc hGc hpk hcs h45 h2k h3k hmk
            iterate 2
              (refine Many.lex_want (by rfl) (rd (fun q => by (go_simp; try rfl))) ?_
               simp only [Act.put, List.setIfInBounds_toArray, List.set_cons_succ, List.set_cons_zero, Nat.reduceAdd])
            iterate 9
              (refine lex_skip (by rfl) Cq.keep ?_
               simp only [Act.put, List.setIfInBounds_toArray, List.set_cons_succ, List.set_cons_zero, Nat.reduceAdd])
            iterate 2
              (refine Many.lex_want (by rfl) (rd (fun q => by (go_simp; try rfl))) ?_
               simp only [Act.put, List.setIfInBounds_toArray, List.set_cons_succ, List.set_cons_zero, Nat.reduceAdd])
            refine Many.lex_nil fun s W' hs hC => ?_
            obtain ⟨q9, rfl⟩ := hC
            go_wp2
            exact ⟨⟨t + 1, by omega, by rw [hnew.out], by go_num, ⟨_, rfl⟩⟩, by simp [intOf]; omega⟩
        · have htk' : t = k := by omega
          subst htk'
          cases hb : (L.take t).contains z with
          | false =>
            have hbk : (!false) = true := rfl
            rw [hbk]
            have hcc : Keep (cntD L (t + 1) = c + 1) := ⟨by rw [hcs.out, hb]; rfl⟩
            clear hb
            go_wp2
            exact ⟨⟨t + 1, by omega, by rw [hcc.out]; go_num, by go_num, ⟨q2, rfl⟩⟩, by simp [intOf]; omega⟩
          | true =>
            have hbk : (!true) = false := rfl
            rw [hbk]
            have hcc : Keep (cntD L (t + 1) = c) := ⟨by rw [hcs.out, hb]; rfl⟩
            clear hb
            go_wp2
            exact ⟨⟨t + 1, by omega, by rw [hcc.out], by go_num, ⟨q2, rfl⟩⟩, by simp [intOf]; omega⟩
    · have hkm : k = m := by omega
      subst hkm
      obtain ⟨c, hc⟩ : ∃ c, cntD L k = c := ⟨_, rfl⟩
      rw [hc] at h45 hck ⊢
      clear hc hq
      go_wp2
      go_loopw [20] (fun i wr => ∃ j : Nat, j ≤ gl ∧ i = .int .i64 j ∧ Keep (∃ q, wr = W.drewN q)) (fun i _ => gl - (intOf i).toNat)
      case atStart => exact ⟨0, by omega, rfl, ⟨q, rfl⟩⟩
      case round =>
        obtain ⟨j, hj, rfl, hq⟩ := hrel
        obtain ⟨q2, rfl⟩ := hq.out
        by_cases hjl : j < gl
        · obtain ⟨g, rfl, h1⟩ := hGc.out q2 j hjl
          have hz := h2k.out j hjl
          have hGg : Keep (∀ q k, k < gl → (W.drewN q).cell? ⟨g, k, none⟩ = some (.int .i64 (G2.getD k 0))) := ⟨fun q k hk => by
            obtain ⟨g', hg', h⟩ := hGc.out q k hk
            injection hg' with hg'; injection hg' with hg'
            rw [hg']; exact h⟩
          cases j with
          | zero =>
            obtain ⟨z, hze⟩ : ∃ z, G2.getD 0 0 = z := ⟨_, rfl⟩
            rw [hze] at h1 hz
            have z1 : decide (z < 1) = false := decide_eq_false (by omega)
            have z2 : decide ((N : Int) < z) = false := decide_eq_false (by omega)
            have z3 : ¬ z < 1 := by omega
            have z4 : ¬ (N : Int) < z := by omega
            have h1q := Keep.mk (fun q => hGg.out q 0 (by omega))
            rw [hze] at h1q
            clear hze hz h1
            go_wp2
            have hmo : Try.prog.follows .mixedOrders = true := by kernel_rfl
            refine (wpIn_wide (n := 0)).1 ?_
            refine Many.region_many (Cq W) hmo (by kernel_rfl) (fun _ _ _ _ h => h) (fun s hs => ⟨q2 + 1, rfl⟩) ?_
            clear hGg hLc hGc h45 h2k h3k hmk
            iterate 3
              (refine Many.lex_want (by rfl) (rd (fun q => by (go_simp; try rfl))) ?_
               simp only [Act.put, List.setIfInBounds_toArray, List.set_cons_succ, List.set_cons_zero, Nat.reduceAdd])
            refine Many.lex_want (by rfl) (rd (v := Value.int .i64 z) (fun q => by (have h1 := h1q.out q; go_simp; try rfl))) ?_
            simp only [Act.put, List.setIfInBounds_toArray, List.set_cons_succ, List.set_cons_zero, Nat.reduceAdd]
            refine Many.lex_want (by rfl) (rd (v := .bool false) (fun q => by (go_simp; try simp [z1, z3]))) ?_
            simp only [Act.put, List.setIfInBounds_toArray, List.set_cons_succ, List.set_cons_zero, Nat.reduceAdd]
            iterate 4
              (refine Many.lex_want (by rfl) (rd (fun q => by (go_simp; try rfl))) ?_
               simp only [Act.put, List.setIfInBounds_toArray, List.set_cons_succ, List.set_cons_zero, Nat.reduceAdd])
            refine Many.lex_want (by rfl) (rd (v := Value.int .i64 z) (fun q => by (have h1 := h1q.out q; go_simp; try rfl))) ?_
            simp only [Act.put, List.setIfInBounds_toArray, List.set_cons_succ, List.set_cons_zero, Nat.reduceAdd]
            iterate 1
              (refine Many.lex_want (by rfl) (rd (fun q => by (go_simp; try rfl))) ?_
               simp only [Act.put, List.setIfInBounds_toArray, List.set_cons_succ, List.set_cons_zero, Nat.reduceAdd])
            refine Many.lex_want (by rfl) (rd (v := .bool false) (fun q => by (go_simp; try simp [z2, z4]))) ?_
            simp only [Act.put, List.setIfInBounds_toArray, List.set_cons_succ, List.set_cons_zero, Nat.reduceAdd]
            iterate 3
              (refine Many.lex_want (by rfl) (rd (fun q => by (go_simp; try rfl))) ?_
               simp only [Act.put, List.setIfInBounds_toArray, List.set_cons_succ, List.set_cons_zero, Nat.reduceAdd])
            refine Many.lex_want (by rfl) (rd (v := .bool false) (fun q => by (go_simp; try rfl))) ?_
            simp only [Act.put, List.setIfInBounds_toArray, List.set_cons_succ, List.set_cons_zero, Nat.reduceAdd]
            iterate 1
              (refine Many.lex_want (by rfl) (rd (fun q => by (go_simp; try rfl))) ?_
               simp only [Act.put, List.setIfInBounds_toArray, List.set_cons_succ, List.set_cons_zero, Nat.reduceAdd])
            iterate 10
              (refine lex_skip (by rfl) Cq.keep ?_
               simp only [Act.put, List.setIfInBounds_toArray, List.set_cons_succ, List.set_cons_zero, Nat.reduceAdd])
            iterate 2
              (refine Many.lex_want (by rfl) (rd (fun q => by (go_simp; try rfl))) ?_
               simp only [Act.put, List.setIfInBounds_toArray, List.set_cons_succ, List.set_cons_zero, Nat.reduceAdd])
            refine Many.lex_nil fun s W' hs hC => ?_
            obtain ⟨q9, rfl⟩ := hC
            go_wp2
            exact ⟨⟨0 + 1, by omega, by go_num, ⟨_, rfl⟩⟩, by simp [intOf]; omega⟩
          | succ j =>
            obtain ⟨g', hg', h2⟩ := hGc.out q2 j (by omega)
            injection hg' with hg'; injection hg' with hg'
            rw [← hg'] at h2
            have hlt2 := h3k.out j hjl
            obtain ⟨z, hze⟩ : ∃ z, G2.getD (j + 1) 0 = z := ⟨_, rfl⟩
            obtain ⟨y, hye⟩ : ∃ z, G2.getD j 0 = z := ⟨_, rfl⟩
            rw [hze] at h1 hz hlt2
            rw [hye] at h2 hlt2
            have z1 : decide (z < 1) = false := decide_eq_false (by omega)
            have z2 : decide ((N : Int) < z) = false := decide_eq_false (by omega)
            have z3 : ¬ z < 1 := by omega
            have z4 : ¬ (N : Int) < z := by omega
            have z5 : decide (z ≤ y) = false := decide_eq_false (by omega)
            have z6 : ¬ z ≤ y := by omega
            have ew : IntKind.i64.wrap (((j + 1 : Nat) : Int) - 1) = (j : Int) := by rw [show ((j + 1 : Nat) : Int) - 1 = (j : Int) by omega]; exact IntWalk.i64_in _ (by omega)
            have ew2 : wrap64 (((j : Int) + 1) - 1) = (j : Int) := by unfold wrap64; omega
            have hjg : j < gl := by omega
            have h1q := Keep.mk (fun q => hGg.out q (j + 1) (by omega))
            rw [hze] at h1q
            have h2q := Keep.mk (fun q => hGg.out q j (by omega))
            rw [hye] at h2q
            clear hze hye hz hlt2 h1 h2 hg'
            go_wp2
            have hmo : Try.prog.follows .mixedOrders = true := by kernel_rfl
            refine (wpIn_wide (n := 0)).1 ?_
            refine Many.region_many (Cq W) hmo (by kernel_rfl) (fun _ _ _ _ h => h) (fun s hs => ⟨q2 + 1, rfl⟩) ?_
            clear hGg hLc hGc h45 h2k h3k hmk
            iterate 2
              (refine Many.lex_want (by rfl) (rd (fun q => by (go_simp; try rfl))) ?_
               simp only [Act.put, List.setIfInBounds_toArray, List.set_cons_succ, List.set_cons_zero, Nat.reduceAdd])
            refine Many.lex_want (by rfl) (rd (v := Value.pointer (some ⟨g, j + 1, none⟩)) (fun q => by (go_simp; try (intros; omega)))) ?_
            simp only [Act.put, List.setIfInBounds_toArray, List.set_cons_succ, List.set_cons_zero, Nat.reduceAdd]
            refine Many.lex_want (by rfl) (rd (v := Value.int .i64 z) (fun q => by (have h1 := h1q.out q; go_simp; try rfl))) ?_
            simp only [Act.put, List.setIfInBounds_toArray, List.set_cons_succ, List.set_cons_zero, Nat.reduceAdd]
            refine Many.lex_want (by rfl) (rd (v := .bool false) (fun q => by (go_simp; try simp [z1, z3]))) ?_
            simp only [Act.put, List.setIfInBounds_toArray, List.set_cons_succ, List.set_cons_zero, Nat.reduceAdd]
            iterate 3
              (refine Many.lex_want (by rfl) (rd (fun q => by (go_simp; try rfl))) ?_
               simp only [Act.put, List.setIfInBounds_toArray, List.set_cons_succ, List.set_cons_zero, Nat.reduceAdd])
            refine Many.lex_want (by rfl) (rd (v := Value.pointer (some ⟨g, j + 1, none⟩)) (fun q => by (go_simp; try (intros; omega)))) ?_
            simp only [Act.put, List.setIfInBounds_toArray, List.set_cons_succ, List.set_cons_zero, Nat.reduceAdd]
            refine Many.lex_want (by rfl) (rd (v := Value.int .i64 z) (fun q => by (have h1 := h1q.out q; go_simp; try rfl))) ?_
            simp only [Act.put, List.setIfInBounds_toArray, List.set_cons_succ, List.set_cons_zero, Nat.reduceAdd]
            iterate 1
              (refine Many.lex_want (by rfl) (rd (fun q => by (go_simp; try rfl))) ?_
               simp only [Act.put, List.setIfInBounds_toArray, List.set_cons_succ, List.set_cons_zero, Nat.reduceAdd])
            refine Many.lex_want (by rfl) (rd (v := .bool false) (fun q => by (go_simp; try simp [z2, z4]))) ?_
            simp only [Act.put, List.setIfInBounds_toArray, List.set_cons_succ, List.set_cons_zero, Nat.reduceAdd]
            iterate 3
              (refine Many.lex_want (by rfl) (rd (fun q => by (go_simp; try rfl))) ?_
               simp only [Act.put, List.setIfInBounds_toArray, List.set_cons_succ, List.set_cons_zero, Nat.reduceAdd])
            refine Many.lex_want (by rfl) (rd (v := .bool true) (fun q => by (go_simp; try (simp; omega)))) ?_
            simp only [Act.put, List.setIfInBounds_toArray, List.set_cons_succ, List.set_cons_zero, Nat.reduceAdd]
            iterate 3
              (refine Many.lex_want (by rfl) (rd (fun q => by (go_simp; try rfl))) ?_
               simp only [Act.put, List.setIfInBounds_toArray, List.set_cons_succ, List.set_cons_zero, Nat.reduceAdd])
            refine Many.lex_want (by rfl) (rd (v := Value.int .i64 (j : Int)) (fun q => by (go_simp; first | done | exact IntWalk.i64_in _ (by omega) | simp [ew, ew2]))) ?_
            simp only [Act.put, List.setIfInBounds_toArray, List.set_cons_succ, List.set_cons_zero, Nat.reduceAdd]
            refine Many.lex_want (by rfl) (rd (v := Value.pointer (some ⟨g, j, none⟩)) (fun q => by (go_simp; try rfl))) ?_
            simp only [Act.put, List.setIfInBounds_toArray, List.set_cons_succ, List.set_cons_zero, Nat.reduceAdd]
            refine Many.lex_want (by rfl) (rd (v := Value.int .i64 y) (fun q => by (have h2 := h2q.out q; go_simp; try rfl))) ?_
            simp only [Act.put, List.setIfInBounds_toArray, List.set_cons_succ, List.set_cons_zero, Nat.reduceAdd]
            iterate 2
              (refine Many.lex_want (by rfl) (rd (fun q => by (go_simp; try rfl))) ?_
               simp only [Act.put, List.setIfInBounds_toArray, List.set_cons_succ, List.set_cons_zero, Nat.reduceAdd])
            refine Many.lex_want (by rfl) (rd (v := Value.pointer (some ⟨g, j + 1, none⟩)) (fun q => by (go_simp; try (intros; omega)))) ?_
            simp only [Act.put, List.setIfInBounds_toArray, List.set_cons_succ, List.set_cons_zero, Nat.reduceAdd]
            refine Many.lex_want (by rfl) (rd (v := Value.int .i64 z) (fun q => by (have h1 := h1q.out q; go_simp; try rfl))) ?_
            simp only [Act.put, List.setIfInBounds_toArray, List.set_cons_succ, List.set_cons_zero, Nat.reduceAdd]
            refine Many.lex_want (by rfl) (rd (v := .bool false) (fun q => by (go_simp; try simp [z5, z6]))) ?_
            simp only [Act.put, List.setIfInBounds_toArray, List.set_cons_succ, List.set_cons_zero, Nat.reduceAdd]
            iterate 2
              (refine Many.lex_want (by rfl) (rd (fun q => by (go_simp; try rfl))) ?_
               simp only [Act.put, List.setIfInBounds_toArray, List.set_cons_succ, List.set_cons_zero, Nat.reduceAdd])
            refine Many.lex_nil fun s W' hs hC => ?_
            obtain ⟨q9, rfl⟩ := hC
            go_wp2
            exact ⟨⟨j + 1 + 1, by omega, by go_num, ⟨_, rfl⟩⟩, by simp [intOf]; omega⟩
        · obtain ⟨g, rfl, h1⟩ := hGc.out q2 0 (by omega)
          obtain ⟨g', hg', h2⟩ := hGc.out q2 (gl - 1) (by omega)
          injection hg' with hg'; injection hg' with hg'
          obtain rfl := hg'
          have hjl' : ¬ ((j : Int) < (gl : Int)) := by omega
          have hjl2 : decide ((j : Int) < (gl : Int)) = false := decide_eq_false hjl'
          have egl : IntKind.i64.wrap ((gl : Int) - 1) = ((gl - 1 : Nat) : Int) := by rw [show (gl : Int) - 1 = ((gl - 1 : Nat) : Int) by omega]; exact IntWalk.i64_in _ (by omega)
          have egl2 : wrap64 ((gl : Int) - 1) = ((gl - 1 : Nat) : Int) := by unfold wrap64; omega
          have egl3 : ((gl : Int) - 1).toNat = gl - 1 := by omega
          have b1 := h2k.out 0 (by omega)
          have b2 := h2k.out (gl - 1) (by omega)
          obtain ⟨l1, l2⟩ := h45.out
          obtain ⟨x, hx⟩ : ∃ z, G2.getD 0 0 = z := ⟨_, rfl⟩
          obtain ⟨y, hy⟩ : ∃ z, G2.getD (gl - 1) 0 = z := ⟨_, rfl⟩
          rw [hx] at h1 b1 l1
          rw [hy] at h2 b2 l2
          have p1 := Int.mul_le_mul b1.2 (show (c : Int) ≤ 60 by omega) (by omega) (by omega)
          have p2 := Int.mul_le_mul b2.2 (show (c : Int) ≤ 60 by omega) (by omega) (by omega)
          have p3 := Int.mul_nonneg (show 0 ≤ x by omega) (show (0 : Int) ≤ c by omega)
          obtain ⟨u, hu⟩ : ∃ u, Keep (x * (c : Int) = u) := ⟨_, ⟨rfl⟩⟩
          obtain ⟨vv, hvv⟩ : ∃ u, Keep (y * (c : Int) = u) := ⟨_, ⟨rfl⟩⟩
          rw [hu.out] at p1 p3 l1
          rw [hvv.out] at p2 l2
          have e1 : IntKind.i64.wrap (x * (c : Int)) = u := by rw [hu.out]; exact IntWalk.i64_in _ (by omega)
          have e2 : IntKind.i64.wrap (y * (c : Int)) = vv := by rw [hvv.out]; exact IntWalk.i64_in _ (by omega)
          have e3 : decide (u ≤ (N : Int)) = true := decide_eq_true l1
          have e4 : decide ((N : Int) ≤ vv) = true := decide_eq_true l2
          clear hx hy b1 b2 p1 p2 p3 hq
          go_wp2_with (go_at_call 11; refine (awake_any _).mono ?_; rintro e w9 ⟨rfl, hb9⟩)
          all_goals go_ret
          all_goals exact ⟨rfl, (hbW.out q2).trans (hb9.mono (hbW.out q2).size)⟩
end Go.Proofs.Ytifbiamfandjnab

/-
  SpreadMirrored: the walk. Two lists grow side by side; then the eight calls, and what they answer.
-/
import Derived.Test.YtifbiamfandjnaaMirrMath
import Derived.Test.YtifbiamfandjnaaTame3
import Derived.Test.YtifbiamfandjnaaAwake
import Derived.Test.YtifbiamfandjnaaOpenArgs
import Derived.Maps.AppendAt
import Derived.WalkKit
set_option linter.unusedSimpArgs false
set_option linter.unusedVariables false
namespace Go.Proofs.Ytifbiamfandjnaa
open Go Go.Proofs Go.RowKit Gap Mir
theorem eqTT (a b : Int) (w : World) : (Op.equalIn 10000 25 (.agg #[.int .i64 a, .int .i64 b]) (.agg #[.int .i64 a, .int .i64 b])).run Try.prog w = .ok true w := by
  rw [eq25]; simp
theorem ints_al1 {w : World} {o : Obj} {v : Value} {l : List Int} (h : IntsAt w v l) : IntsAt (w.alloc o) v l := ints_below h ((Below.refl _ _).alloc (Nat.le_refl _) _)
theorem ints_al2 {w : World} {o o' : Obj} {v : Value} {l : List Int} (h : IntsAt w v l) : IntsAt ((w.alloc o).alloc o') v l := ints_al1 (ints_al1 h)
set_option maxHeartbeats 8000000 in
set_option maxRecDepth 100000 in
theorem mirrored_any {n : Int} {v v2 : Value} {zs zs2 : List Int} {w : World} (hv : ArgInts w v zs) (hv2 : ArgInts w v2 zs2) :
    Calls Try.prog 11 #[.int .i64 n, v, v2] w fun e w' => e = .returned (.bool true) ∧ Below w.heap.size w w' := by
  obtain ⟨i0, hi, hz0, hz1, hz2⟩ := info_parts info3
  have q48 := tame3_any (n := n) hv
  clear hv
  go_enter Try.func11, Try.ntmps11
  go_wp2_with (first
    | (go_at_call 48; refine q48.mono ?_; rintro e w1 ⟨N, v', L, rfl, hok, hi1, hb1⟩
       obtain ⟨hN1, hN2, hm1, hm2, hLb⟩ := ok_parts hok
       obtain ⟨m, hm⟩ : ∃ m, L.length = m := ⟨_, rfl⟩
       have hm60 : m ≤ 60 := by omega
       have q51 := Ord.order_any (n := m) (by omega) (by omega) (arg_below hv2 hb1)
       obtain ⟨A, cap, hve, _⟩ := id hi1
       rw [hm] at hve
       subst hve
       have hLbk := Keep.mk hLb
       have hokk := Keep.mk hok
       clear q48 hLb hok hv2)
    | (go_at_call 51; (with_reducible refine q51.mono ?_); rintro e w2 ⟨v8, P, rfl, hP, hPl, hperm, hb2⟩
       have hi2 := ints_below hi1 hb2
       have hbw2 : Below w.heap.size w w2 := hb1.trans (hb2.mono hb1.size)
       obtain ⟨gP, capP, rfl, _, _, hgP, hPc⟩ := hP
       rw [hPl] at hPc ⊢
       have hpk := Keep.mk hperm
       clear q51 hi1 hb1 hb2 hperm))
  obtain ⟨A', cap', he, hLc0⟩ := id hi2
  injection he with he1 he2 he3
  subst he1
  subst he3
  rw [hm] at hLc0
  have hLc : Keep (∀ k, k < m → ∃ g, A = some ⟨g, 0, none⟩ ∧ g < w2.heap.size ∧ w2.cell? ⟨g, k, none⟩ = some (.int .i64 (L.getD k 0))) := ⟨fun k hk => by
    obtain ⟨g, hA, h⟩ := hLc0 k hk
    refine ⟨g, hA, ?_, h⟩
    rcases Nat.lt_or_ge g w2.heap.size with h' | h'
    · exact h'
    · simp [World.cell?, Array.getElem?_eq_none h'] at h⟩
  have hPk : Keep (∀ k, k < m → ∃ q : Nat, q < m ∧ P.getD k 0 = (q : Int) ∧ w2.cell? ⟨gP, k, none⟩ = some (.int .i64 q)) := ⟨fun k hk => by
    obtain ⟨q, hq, hqe⟩ := perm_at (L := L) (P := P) (k := k) (by rw [hm]; exact hpk.out) (by omega)
    have := hPc k hk
    rw [Nat.zero_add, hqe] at this
    exact ⟨q, by omega, hqe, this⟩⟩
  have hi2k := Keep.mk hi2
  have hmk := Keep.mk hm
  have hPlk := Keep.mk hPl
  have hgPk := Keep.mk hgP
  have hbw2k := Keep.mk hbw2
  clear hLc0 hPc he2 hi2 hm hPl hgP hbw2
  go_loopw [9, 10, 11] (fun a b i wr => ∃ k : Nat, k ≤ m ∧ i = .int .i64 k ∧ wr.ownsRow w2.heap.size 3 1 a k ((mirL N (L.take k)).map vz) ∧ wr.ownsRow w2.heap.size 3 1 b k ((reL L (P.take k)).map vz) ∧ Keep (∀ j, a.ownBlock = some j → b.ownBlock ≠ some j) ∧ Below w2.heap.size w2 wr) (fun _ _ i _ => m - (intOf i).toNat)
  case atStart => exact ⟨0, by omega, rfl, World.ownsRow_nil _ _ _ _, World.ownsRow_nil _ _ _ _, ⟨fun j hj => by cases hj⟩, Below.refl _ _⟩
  case round =>
    obtain ⟨k, hk, rfl, hoa, hob, hap, hbw⟩ := hrel
    have hbz := hbw.size
    by_cases hlt : k < m
    · obtain ⟨g, rfl, hg, hc⟩ := hLc.out k hlt
      obtain ⟨q, hq, hqe, hqc⟩ := hPk.out k hlt
      obtain ⟨g', hg', hgl, hc'⟩ := hLc.out q hq
      injection hg' with hg'; injection hg' with hg'
      subst hg'
      have hc1 := (hbw.cell (p := ⟨g, k, none⟩) hg).trans hc
      have hc2 := (hbw.cell (p := ⟨g, q, none⟩) hg).trans hc'
      have hc3 := (hbw.cell (p := ⟨gP, k, none⟩) hgPk.out).trans hqc
      have hzb := hLbk.out _ (getz (zs := L) (k := k) (by rw [hmk.out]; exact hlt))
      have hpa := mirL_push (N := N) (L := L) (k := k) (by rw [hmk.out]; exact hlt)
      have hpb := reL_push (L := L) (P := P) (k := k) (by rw [hPlk.out]; exact hlt)
      rw [hqe, show ((q : Int)).toNat = q from rfl] at hpb
      obtain ⟨z, hz⟩ : ∃ z, L.getD k 0 = z := ⟨_, rfl⟩
      obtain ⟨y, hy⟩ : ∃ y, L.getD q 0 = y := ⟨_, rfl⟩
      rw [hz] at hc1 hzb hpa
      rw [hy] at hc2 hpb
      have hpak := Keep.mk hpa
      have hpbk := Keep.mk hpb
      have e1 : IntKind.i64.wrap ((N : Int) - 1) = (N : Int) - 1 := IntWalk.i64_in _ (by omega)
      have e2 : IntKind.i64.wrap ((N : Int) - 1 - z) = (N : Int) - 1 - z := IntWalk.i64_in _ (by omega)
      have t1 : Keep True := ⟨trivial⟩
      clear hz hy hpa hpb hc hc' hqc hqe hgl
      go_wp2_with (first
        | (at_builtin; go_loud (
           clear t1
           refine wpList_append_own_at _ rfl _ _ 22 rfl w2.heap.size 3 i0 (.int .i64 0) 1 8 ty22 hi hz0 hz1 hz2 rfl (by decide) _ _ _ rfl (hoa.alloc _) ⟨wr.heap.size, 0, none⟩ 1 1 [.int .i64 ((N : Int) - 1 - z)] rfl rfl (cell_one_new _ _ _) (fun x hx => by simp at hx; subst hx; rfl) (by unfold maxLen; omega) (by omega) (by simp; try omega) ?_
           intro v3 w3 hoa3 hgrow3 hnil3 hblk3
           have hb3 : Below w2.heap.size w2 w3 := Below.grown (hbw.alloc hbz _) hgrow3 (by simp; omega) (fun j hj => by have := (hoa.lt _ hj).1; omega)
           have hs3 := hb3.size
           have hob3 := (hob.alloc (.cells #[.int .i64 ((N : Int) - 1 - z)] 3)).kept hgrow3 (apart_ne hap.out)
           have hap3 := Keep.mk (apart_new hap.out hblk3 (fun j hj => by have := (hob.lt _ hj).2; simp; omega))
           have hc2 : w3.cell? ⟨g, q, none⟩ = some (.int .i64 y) := by
             obtain ⟨g', hg', hgl, hc'⟩ := hLc.out q hq
             injection hg' with hg'; injection hg' with hg'
             subst hg'
             exact (hb3.cell (p := ⟨g, q, none⟩) hg).trans ((hbw.cell (p := ⟨g, q, none⟩) hg).symm.trans hc2)
           have hc3 : w3.cell? ⟨gP, k, none⟩ = some (.int .i64 q) := (hb3.cell (p := ⟨gP, k, none⟩) hgPk.out).trans ((hbw.cell (p := ⟨gP, k, none⟩) hgPk.out).symm.trans hc3)
           have t2 : Keep True := ⟨trivial⟩
           clear hgrow3 hnil3 hblk3 hap hoa hob hc1))
        | (at_builtin; go_loud (
           clear t2
           refine wpList_append_own_at _ rfl _ _ 22 rfl w2.heap.size 3 i0 (.int .i64 0) 1 8 ty22 hi hz0 hz1 hz2 rfl (by decide) _ _ _ rfl (hob3.alloc _) ⟨w3.heap.size, 0, none⟩ 1 1 [.int .i64 y] rfl rfl (cell_one_new _ _ _) (fun x hx => by simp at hx; subst hx; rfl) (by unfold maxLen; omega) (by omega) (by simp; try omega) ?_
           intro v4 w4 hob4 hgrow4 hnil4 hblk4
           have hb4 : Below w2.heap.size w2 w4 := Below.grown (hb3.alloc hs3 _) hgrow4 (by simp; omega) (fun j hj => by have := (hob3.lt _ hj).1; omega)
           have hoa4 := (hoa3.alloc (.cells #[.int .i64 y] 3)).kept hgrow4 (apart_ne (apart_symm hap3.out))
           have hap4 := Keep.mk (apart_symm (apart_new (apart_symm hap3.out) hblk4 (fun j hj => by have := (hoa3.lt _ hj).2; simp; omega)))
           clear hgrow4 hnil4 hblk4 hap3 hoa3 hob3 hb3 hc2 hc3)))
      refine ⟨⟨k + 1, by omega, by go_num, ?_, ?_, hap4, hb4⟩, by simp [intOf]; omega⟩
      · rw [hpak.out, List.map_append]; exact hoa4
      · rw [hpbk.out, List.map_append]; exact hob4
    · have hkm : k = m := by omega
      subst hkm
      have hil := ints_below hi2k.out hbw
      have hia : IntsAt wr _ (mirL N L) := own_cellz (B := w2.heap.size) (by rw [mirL_len, hmk.out]; rw [List.take_of_length_le (by rw [hmk.out]; exact Nat.le_refl _)] at hoa; exact hoa)
      have hib : IntsAt wr _ (reL L P) := own_cellz (B := w2.heap.size) (by rw [reL_len, hPlk.out]; rw [List.take_of_length_le (by rw [hPlk.out]; exact Nat.le_refl _)] at hob; exact hob)
      clear hoa hob hap
      have hpl : (reL L P).Perm L := reL_perm (by rw [hmk.out]; exact hpk.out)
      have hbw0 : Below w.heap.size w wr := hbw2k.out.trans (hbw.mono hbw2k.out.size)
      have okA := mirL_ok hokk.out
      have okB := ok_perm hpl hokk.out
      have qa := fun (w : World) (v : Value) (h : IntsAt w v L) => intv_any h hokk.out
      have qb := fun (w : World) (v : Value) (h : IntsAt w v (mirL N L)) => intv_any h okA
      have qc := fun (w : World) (v : Value) (h : IntsAt w v (reL L P)) => intv_any h okB
      have qd := fun (w : World) (v : Value) (h : IntsAt w v L) => gaps_any h hokk.out
      have qe := fun (w : World) (v : Value) (h : IntsAt w v (mirL N L)) => gaps_any h okA
      have qf := fun (w : World) (v : Value) (h : IntsAt w v L) => line_any h hokk.out
      have qg := fun (w : World) (v : Value) (h : IntsAt w v (reL L P)) => line_any h okB
      rw [mirL_len] at qb
      rw [hpl.length_eq, exc_perm hpl] at qc
      rw [line_perm hpl, hpl.length_eq] at qg
      have hmir := Keep.mk (fun t (ht : t ≤ N) => exc_mir (L := L) ht)
      have hgm := Keep.mk (fun K K' => gaps_mir (K := K) (K' := K') hokk.out)
      obtain ⟨x, hx⟩ : ∃ x, redN (lineW N L).2 ((L.length : Int) * N) = x := ⟨_, rfl⟩
      obtain ⟨y, hy⟩ : ∃ x, redD (lineW N L).2 ((L.length : Int) * N) = x := ⟨_, rfl⟩
      obtain ⟨l1, hl1⟩ : ∃ x, (((lineW N L).1.1 : Nat) : Int) = x := ⟨_, rfl⟩
      obtain ⟨l2, hl2⟩ : ∃ x, (lineW N L).1.2.1 = x := ⟨_, rfl⟩
      obtain ⟨Q, hQ⟩ : ∃ Q, (L.length : Int) * (N : Int) = Q := ⟨_, rfl⟩
      obtain ⟨M1, hM1⟩ : ∃ M, mirL N L = M := ⟨_, rfl⟩
      obtain ⟨M2, hM2⟩ : ∃ M, reL L P = M := ⟨_, rfl⟩
      obtain ⟨E1, hE1⟩ : ∃ M, excT N L = M := ⟨_, rfl⟩
      rw [hx, hy, hl1, hl2] at qf qg
      rw [hM1] at hia qb qe hmir hgm
      rw [hM2] at hib qc qg
      rw [hE1] at qa qc hmir
      rw [hQ] at qa qb qc
      have z1 := eqTT x y
      clear hx hy hl1 hl2 hQ hM1 hM2 hE1 hpl okA okB hpk hPk hLbk hLc hokk hPlk hgPk hmk hi2k hbw2k hbw hbz
      unfold fracV at qa qb qc qf qg
      go_wp2_with (first
        | (go_at_call 23; go_loud (
           refine (qa _ _ hil).mono ?_; rintro e3 w3 ⟨D, s, t, rfl, hsp, hb3⟩
           obtain ⟨X, hX⟩ : ∃ X, redN (D : Int) Q = X := ⟨_, rfl⟩
           obtain ⟨Y, hY⟩ : ∃ X, redD (D : Int) Q = X := ⟨_, rfl⟩
           have qb2 := fun (w : World) (v : Value) (h : IntsAt w v M1) => (qb w v h).mono (R' := fun e w' => ∃ s t : Nat, e = .returned (.tuple #[.agg #[.int .i64 X, .int .i64 Y], .agg #[.int .i64 s, .int .i64 t], .int .i64 0]) ∧ Below w.heap.size w w') fun e w' ⟨D', s', t', he, hp, hb⟩ => by
             obtain rfl := pair_mir hmir.out hsp hp
             rw [hX, hY] at he
             exact ⟨s', t', he, hb⟩
           have qc2 := fun (w : World) (v : Value) (h : IntsAt w v M2) => (qc w v h).mono (R' := fun e w' => ∃ s t : Nat, e = .returned (.tuple #[.agg #[.int .i64 X, .int .i64 Y], .agg #[.int .i64 s, .int .i64 t], .int .i64 0]) ∧ Below w.heap.size w w') fun e w' ⟨D', s', t', he, hp, hb⟩ => by
             obtain rfl := (pair_unique hsp hp).1
             rw [hX, hY] at he
             exact ⟨s', t', he, hb⟩
           have z2 := eqTT X Y
           have z3 := eqTT X Y
           rw [hX, hY]
           have hil := ints_below hil hb3
           have hia := ints_below hia hb3
           have hib := ints_below hib hb3
           have hbw3 : Below w.heap.size w w3 := hbw0.trans (hb3.mono hbw0.size)
           have hz3 := hbw3.size
           clear hX hY hsp qa qb qc hb3 hbw0 hmir))
        | (go_at_call 23; go_loud (
           (with_reducible refine (qb2 _ _ (ints_al2 hia)).mono ?_); rintro e4 w4 ⟨s4, t4, rfl, hb4⟩
           have F30 : w4.cell? ⟨w3.heap.size, 0, none⟩ = some (.int .i64 X) := cell_below (by go_simp) hb4
           have F31 : w4.cell? ⟨w3.heap.size, 1, none⟩ = some (.int .i64 Y) := cell_below (by go_simp) hb4
           have s34 : w3.heap.size < w4.heap.size := by have := hb4.size; (try simp at this); omega
           have hil := ints_below (ints_al2 hil) hb4
           have hia := ints_below (ints_al2 hia) hb4
           have hib := ints_below (ints_al2 hib) hb4
           have hbw4 : Below w.heap.size w w4 := ((hbw3.alloc hz3 _).alloc (by simp; omega) _).trans (hb4.mono (by simp; omega))
           have hz4 := hbw4.size
           clear hb4 hbw3 qb2 ))
        | (go_at_call 23; go_loud (
           (with_reducible refine (qc2 _ _ (ints_al2 hib)).mono ?_); rintro e5 w5 ⟨s5, t5, rfl, hb5⟩
           have F30 : w5.cell? ⟨w3.heap.size, 0, none⟩ = some (.int .i64 X) := cell_below (by go_simp) hb5
           have F31 : w5.cell? ⟨w3.heap.size, 1, none⟩ = some (.int .i64 Y) := cell_below (by go_simp) hb5
           have s35 : w3.heap.size < w5.heap.size := by have := hb5.size; (try simp at this); omega
           have F40 : w5.cell? ⟨w4.heap.size, 0, none⟩ = some (.int .i64 X) := cell_below (by go_simp) hb5
           have F41 : w5.cell? ⟨w4.heap.size, 1, none⟩ = some (.int .i64 Y) := cell_below (by go_simp) hb5
           have s45 : w4.heap.size < w5.heap.size := by have := hb5.size; (try simp at this); omega
           have hil := ints_below (ints_al2 hil) hb5
           have hia := ints_below (ints_al2 hia) hb5
           have hib := ints_below (ints_al2 hib) hb5
           have hbw5 : Below w.heap.size w w5 := ((hbw4.alloc hz4 _).alloc (by simp; omega) _).trans (hb5.mono (by simp; omega))
           have hz5 := hbw5.size
           clear hb5 hbw4 qc2 ))
        | (go_at_call 24; go_loud (
           (with_reducible refine (qd _ _ (ints_al2 hil)).mono ?_); rintro e6 w6 ⟨v6, K, rfl, hK, hK60, hK6, hb6⟩
           have F30 : w6.cell? ⟨w3.heap.size, 0, none⟩ = some (.int .i64 X) := cell_below (by go_simp) hb6
           have F31 : w6.cell? ⟨w3.heap.size, 1, none⟩ = some (.int .i64 Y) := cell_below (by go_simp) hb6
           have s36 : w3.heap.size < w6.heap.size := by have := hb6.size; (try simp at this); omega
           have F40 : w6.cell? ⟨w4.heap.size, 0, none⟩ = some (.int .i64 X) := cell_below (by go_simp) hb6
           have F41 : w6.cell? ⟨w4.heap.size, 1, none⟩ = some (.int .i64 Y) := cell_below (by go_simp) hb6
           have s46 : w4.heap.size < w6.heap.size := by have := hb6.size; (try simp at this); omega
           have F50 : w6.cell? ⟨w5.heap.size, 0, none⟩ = some (.int .i64 X) := cell_below (by go_simp) hb6
           have F51 : w6.cell? ⟨w5.heap.size, 1, none⟩ = some (.int .i64 Y) := cell_below (by go_simp) hb6
           have s56 : w5.heap.size < w6.heap.size := by have := hb6.size; (try simp at this); omega
           have hil := ints_below (ints_al2 hil) hb6
           have hia := ints_below (ints_al2 hia) hb6
           have hib := ints_below (ints_al2 hib) hb6
           have hbw6 : Below w.heap.size w w6 := ((hbw5.alloc hz5 _).alloc (by simp; omega) _).trans (hb6.mono (by simp; omega))
           have hz6 := hbw6.size
           clear hb6 hbw5 qd ))
        | (go_at_call 24; go_loud (
           (with_reducible refine (qe _ _ hia).mono ?_); rintro e7 w7 ⟨v7, K', rfl, hK', hK60', hK7, hb7⟩
           obtain rfl := hgm.out _ _ hK hK'
           have hK6 := ints_below hK6 hb7
           have F30 : w7.cell? ⟨w3.heap.size, 0, none⟩ = some (.int .i64 X) := cell_below (by go_simp) hb7
           have F31 : w7.cell? ⟨w3.heap.size, 1, none⟩ = some (.int .i64 Y) := cell_below (by go_simp) hb7
           have s37 : w3.heap.size < w7.heap.size := by have := hb7.size; (try simp at this); omega
           have F40 : w7.cell? ⟨w4.heap.size, 0, none⟩ = some (.int .i64 X) := cell_below (by go_simp) hb7
           have F41 : w7.cell? ⟨w4.heap.size, 1, none⟩ = some (.int .i64 Y) := cell_below (by go_simp) hb7
           have s47 : w4.heap.size < w7.heap.size := by have := hb7.size; (try simp at this); omega
           have F50 : w7.cell? ⟨w5.heap.size, 0, none⟩ = some (.int .i64 X) := cell_below (by go_simp) hb7
           have F51 : w7.cell? ⟨w5.heap.size, 1, none⟩ = some (.int .i64 Y) := cell_below (by go_simp) hb7
           have s57 : w5.heap.size < w7.heap.size := by have := hb7.size; (try simp at this); omega
           have hil := ints_below hil hb7
           have hib := ints_below hib hb7
           have hbw7 : Below w.heap.size w w7 := hbw6.trans (hb7.mono hbw6.size)
           have hz7 := hbw7.size
           clear hb7 hbw6 qe hgm hK hK' hK60'))
        | (go_at_call 16; go_loud (
           (with_reducible refine (qf _ _ hil).mono ?_); rintro e8 w8 ⟨rfl, hb8⟩
           have hK6 := ints_below hK6 hb8
           have hK7 := ints_below hK7 hb8
           have F30 : w8.cell? ⟨w3.heap.size, 0, none⟩ = some (.int .i64 X) := cell_below (by go_simp) hb8
           have F31 : w8.cell? ⟨w3.heap.size, 1, none⟩ = some (.int .i64 Y) := cell_below (by go_simp) hb8
           have s38 : w3.heap.size < w8.heap.size := by have := hb8.size; (try simp at this); omega
           have F40 : w8.cell? ⟨w4.heap.size, 0, none⟩ = some (.int .i64 X) := cell_below (by go_simp) hb8
           have F41 : w8.cell? ⟨w4.heap.size, 1, none⟩ = some (.int .i64 Y) := cell_below (by go_simp) hb8
           have s48 : w4.heap.size < w8.heap.size := by have := hb8.size; (try simp at this); omega
           have F50 : w8.cell? ⟨w5.heap.size, 0, none⟩ = some (.int .i64 X) := cell_below (by go_simp) hb8
           have F51 : w8.cell? ⟨w5.heap.size, 1, none⟩ = some (.int .i64 Y) := cell_below (by go_simp) hb8
           have s58 : w5.heap.size < w8.heap.size := by have := hb8.size; (try simp at this); omega
           have hib := ints_below hib hb8
           have hbw8 : Below w.heap.size w w8 := hbw7.trans (hb8.mono hbw7.size)
           have hz8 := hbw8.size
           clear hb8 hbw7 qf hil))
        | (go_at_call 16; go_loud (
           (with_reducible refine (qg _ _ (ints_al1 hib)).mono ?_); rintro e9 w9 ⟨rfl, hb9⟩
           have hK6 := ints_below (ints_al1 hK6) hb9
           have hK7 := ints_below (ints_al1 hK7) hb9
           have F30 : w9.cell? ⟨w3.heap.size, 0, none⟩ = some (.int .i64 X) := cell_below (by go_simp) hb9
           have F31 : w9.cell? ⟨w3.heap.size, 1, none⟩ = some (.int .i64 Y) := cell_below (by go_simp) hb9
           have s39 : w3.heap.size < w9.heap.size := by have := hb9.size; (try simp at this); omega
           have F40 : w9.cell? ⟨w4.heap.size, 0, none⟩ = some (.int .i64 X) := cell_below (by go_simp) hb9
           have F41 : w9.cell? ⟨w4.heap.size, 1, none⟩ = some (.int .i64 Y) := cell_below (by go_simp) hb9
           have s49 : w4.heap.size < w9.heap.size := by have := hb9.size; (try simp at this); omega
           have F50 : w9.cell? ⟨w5.heap.size, 0, none⟩ = some (.int .i64 X) := cell_below (by go_simp) hb9
           have F51 : w9.cell? ⟨w5.heap.size, 1, none⟩ = some (.int .i64 Y) := cell_below (by go_simp) hb9
           have s59 : w5.heap.size < w9.heap.size := by have := hb9.size; (try simp at this); omega
           have F80 : w9.cell? ⟨w8.heap.size, 0, none⟩ = some (.int .i64 x) := cell_below (by go_simp) hb9
           have F81 : w9.cell? ⟨w8.heap.size, 1, none⟩ = some (.int .i64 y) := cell_below (by go_simp) hb9
           have s89 : w8.heap.size < w9.heap.size := by have := hb9.size; (try simp at this); omega
           have hbw9 : Below w.heap.size w w9 := (hbw8.alloc hz8 _).trans (hb9.mono (by simp; omega))
           have hz9 := hbw9.size
           clear hb9 hbw8 qg hib))
        | (go_at_call 27; go_loud (
           refine (ints_any (IntsAt.off (ints_al1 hK6)) (IntsAt.off (ints_al1 hK7)) (by omega)).mono ?_; rintro e10 w10 ⟨rfl, n10, rfl⟩
           rw [show decide (K = K) = true by simp]))
        | (go_at_call 19; refine (awake_any _).mono ?_; rintro e11 w11 ⟨rfl, hb11⟩))
      all_goals go_ret
      all_goals exact ⟨rfl, (below_drewN (hbw9.alloc hz9 _) n10).trans (hb11.mono (by simp; omega))⟩
end Go.Proofs.Ytifbiamfandjnaa

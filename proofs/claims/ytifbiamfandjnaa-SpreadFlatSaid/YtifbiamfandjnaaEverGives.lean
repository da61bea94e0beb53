import Derived.Test.YtifbiamfandjnaaAtGives
import Derived.Test.YtifbiamfandjnaaSeqD
set_option linter.unusedSimpArgs false
set_option linter.unusedVariables false
namespace Go.Proofs.Ytifbiamfandjnaa
open Go Go.Proofs Go.RowKit Go.Seq
attribute [local go_sem] Oper.semAt_some
def upTo (N n : Nat) (g : Nat → Nat) (t : Nat) : List Wit := (List.range t).flatMap (witsAt N n g)
def allWits (N n : Nat) (g : Nat → Nat) : List Wit := upTo N n g (N + 1)
theorem upTo_succ (N n : Nat) (g : Nat → Nat) (t : Nat) : upTo N n g (t + 1) = upTo N n g t ++ witsAt N n g t := by simp [upTo, List.range_succ]
theorem upTo_rest (N n : Nat) (g : Nat → Nat) {t : Nat} : ∀ {M}, t < M → ∃ rest, upTo N n g M = upTo N n g t ++ (witsAt N n g t ++ rest)
  | 0, h => by omega
  | M + 1, h => by
    by_cases e : t = M
    · subst e; exact ⟨[], by rw [upTo_succ]; simp⟩
    · obtain ⟨rest, hr⟩ := upTo_rest N n g (t := t) (M := M) (by omega)
      exact ⟨rest ++ witsAt N n g M, by rw [upTo_succ, hr]; simp⟩
theorem at_maker {b t : Nat} (w : World) :
    Calls Try.prog 56 #[.pointer (some ⟨b, 0, none⟩), .int .i64 t] w fun e w' => e = .returned (.func (.func 81) #[] #[.pointer (some ⟨w.heap.size + 1, 0, none⟩), .pointer (some ⟨w.heap.size, 0, none⟩)]) ∧
      w' = (w.alloc (.cells #[.pointer (some ⟨b, 0, none⟩)] 82)).alloc (.cells #[.int .i64 t] 3) := by
  go_enter Try.func56, Try.ntmps56
  go_wp2
  go_ret
  exact ⟨rfl, rfl⟩
theorem AtR.below {W W' : World} {Bt Bl b N n t B : Nat} {g : Nat → Nat} (h : AtR W Bt Bl b N n g t) (hb : Below B W W') (h1 : b < B) (h2 : Bt < B) (h3 : Bl < B) : AtR W' Bt Bl b N n g t :=
  ⟨h.line.below hb h1, (hb.cell (p := ⟨Bt, 0, none⟩) h2).trans h.tb, (hb.cell (p := ⟨Bl, 0, none⟩) h3).trans h.lb⟩
set_option maxRecDepth 100000 in
theorem ever_gives {b N n Bl : Nat} {g : Nat → Nat} (W1 : World) :
    Gives Try.prog 80 #[.pointer (some ⟨Bl, 0, none⟩)] encW (allWits N n g) (fun W => LineAt W b N n g ∧ W.cell? ⟨Bl, 0, none⟩ = some (.pointer (some ⟨b, 0, none⟩))) W1 := by
  intro l J hJ hR hY h0
  have hmx : Try.prog.follows .mixedOrders = true := by kernel_rfl
  have h0' := hJ _ _ _ h0 ((Below.refl _ _).alloc (Nat.le_refl _) (.cells #[.func (.yield l) #[] #[]] 119))
  obtain ⟨hL0, hl0⟩ := hR _ _ h0'
  have hN := hL0.hN
  have hs0 := hL0.scale
  refine callsIn_of_wp_marks Try.func80 rfl trivial ?_ rfl
  simp only [Try.ntmps80, List.size_toArray, List.length_cons, List.length_nil, Nat.reduceAdd, Nat.reduceSub, Array.replicate_succ, Array.replicate_zero, List.push_toArray, List.append_toArray, List.nil_append, List.cons_append]
  gi_wp2
  refine wpIn_loop (fun a' wr => ∃ (t : Nat) (ds : List Nat) (u3 u4 u5 u12 u13 u14 u15 u16 u17 u18 u19 u20 u21 u22 u23 u24 : Value), t ≤ N + 1 ∧ J (upTo N n g t) wr ∧ wr.cell? ⟨W1.heap.size, 0, none⟩ = some (.func (.yield l) #[] #[]) ∧ W1.heap.size + 1 ≤ wr.heap.size ∧ Laid ds (W1.heap.size + 1) wr ∧
      a' = { tmps := #[.func (.yield l) #[] #[], .pointer (some ⟨Bl, 0, none⟩), .pointer (some ⟨W1.heap.size, 0, none⟩), u3, u4, u5, .pointer (some ⟨b, 0, none⟩), .pointer (some ⟨b, 0, none⟩), .pointer (some ⟨b, 0, none⟩), .int .i64 N, .int .i64 ((N : Int) + 1), .int .i64 t, u12, u13, u14, u15, u16, u17, u18, u19, u20, u21, u22, u23, u24], defers := marks ds })
    (fun a' _ => N + 1 - (intOf (a'.tmps.getD 11 undef)).toNat) ?_ ?_
  · refine ⟨0, [], undef, undef, undef, undef, undef, undef, undef, undef, undef, undef, undef, undef, undef, undef, undef, undef, by omega, ?_, ?_, by simp, Laid.nil _ _, rfl⟩
    · simpa [upTo] using h0'
    · go_simp
  rintro a' wr ⟨t, ds, u3, u4, u5, u12, u13, u14, u15, u16, u17, u18, u19, u20, u21, u22, u23, u24, ht, hj, hy0, hsz, hlaid, rfl⟩
  obtain ⟨hL, hlb⟩ := hR _ _ hj
  have hw1 : IntKind.i64.wrap ((t : Int) + 1) = (t : Int) + 1 := IntWalk.i64_in _ (by omega)
  by_cases hlt : t < N + 1
  · have hatr : AtR ((wr.alloc (.cells #[.pointer (some ⟨b, 0, none⟩)] 82)).alloc (.cells #[.int .i64 t] 3)) (wr.heap.size + 1) wr.heap.size b N n g t :=
      ⟨hL.below (((Below.refl _ wr).alloc (Nat.le_refl _) _).alloc (by simp) _) hL.lt, by go_simp, by go_simp⟩
    have hb2 : Below wr.heap.size wr ((wr.alloc (.cells #[.pointer (some ⟨b, 0, none⟩)] 82)).alloc (.cells #[.int .i64 t] 3)) := ((Below.refl _ wr).alloc (Nat.le_refl _) _).alloc (by simp) _
    have hs2 : ((wr.alloc (.cells #[.pointer (some ⟨b, 0, none⟩)] 82)).alloc (.cells #[.int .i64 t] 3)).heap.size = wr.heap.size + 2 := by simp
    gi_wp2_with (refine ⟨trivial, rfl, ?_⟩; gi_at_call 56; refine (callsIn_wide.2 (at_maker _)).mono ?_; rintro e w' ⟨rfl, rfl⟩)
    revert hatr hb2 hs2
    generalize (wr.alloc (.cells #[.pointer (some ⟨b, 0, none⟩)] 82)).alloc (.cells #[.int .i64 t] 3) = w2
    intro hatr hb2 hs2
    refine range_gives (gf := 81) (lb := #[.pointer (some ⟨wr.heap.size + 1, 0, none⟩), .pointer (some ⟨wr.heap.size, 0, none⟩)]) rfl (enters_of Try.func81 (by kernel_rfl) rfl) (encs := encW) (xs := witsAt N n g t)
      (R := fun W => AtR W (wr.heap.size + 1) wr.heap.size b N n g t) (fun x => rfl) (fun W1' _ _ => at_gives (by omega) W1')
      (fun pre W => J (upTo N n g t ++ pre) W ∧ AtR W (wr.heap.size + 1) wr.heap.size b N n g t ∧ W.cell? ⟨W1.heap.size, 0, none⟩ = some (.func (.yield l) #[] #[]) ∧ Laid ds (W1.heap.size + 1) W)
      ?_ (fun pre W h => h.2.1) ?_
      (fun x a' W => ∃ Bx, w2.heap.size + 2 ≤ Bx ∧ W.heap[Bx]? = some (.cells #[.int .i64 0, .int .i64 (x.1 : Nat), .bool x.2.1] 86 (0, 0)) ∧
        ∃ v17 v18, a' = { tmps := #[.func (.yield l) #[] #[], .pointer (some ⟨Bl, 0, none⟩), .pointer (some ⟨W1.heap.size, 0, none⟩), .int .i64 t, .pointer (some ⟨Bx, 0, none⟩), .int .i64 x.2.2, .pointer (some ⟨b, 0, none⟩), .pointer (some ⟨b, 0, none⟩), .pointer (some ⟨b, 0, none⟩), .int .i64 N, .int .i64 ((N : Int) + 1), .int .i64 t, .bool true, .int .i64 t, .pointer (some ⟨b, 0, none⟩), .int .i64 t, .func (.func 81) #[] #[.pointer (some ⟨wr.heap.size + 1, 0, none⟩), .pointer (some ⟨wr.heap.size, 0, none⟩)], v17, v18, u19, u20, u21, u22, u23, u24], defers := [] })
      ?_ ?assign ?body ?done
    · rintro pre W W' ⟨k1, k2, k3, k4⟩ hb
      have hbl := hL.lt
      exact ⟨hJ _ _ _ k1 (hb.mono (by omega)), k2.below hb (by omega) (by omega) (by omega), (hb.cell (p := ⟨W1.heap.size, 0, none⟩) (by show W1.heap.size < _; omega)).trans k3, k4.below hb (fun D hD => by have := hlaid.lt hD; omega)⟩
    · refine ⟨by simpa using hJ _ _ _ hj (hb2.mono (by omega)), hatr, (hb2.cell (p := ⟨W1.heap.size, 0, none⟩) (by show W1.heap.size < _; omega)).trans hy0, hlaid.below hb2 (fun D hD => hlaid.lt hD)⟩
    · rintro x a' W W' ⟨Bx, k1, k2, v17, v18, rfl⟩ hf
      exact ⟨Bx, k1, (hf.2 Bx k1 (Array.getElem?_eq_some_iff.1 k2).1).trans k2, v17, v18, rfl⟩
    case assign =>
      intro l2 pre x W K hi hsz2 hK
      simp only [encW]
      gi_wp2
      exact hK _ _ ((Below.refl _ W).alloc (Nat.le_refl _) _) ⟨W.heap.size, by omega, World.alloc_heap_new W _, _, _, rfl⟩
    case body =>
      rintro l2 pre x a' W ⟨hj2, hat2, hy2, hl2⟩ ⟨Bx, hBx, hbx, v17, v18, rfl⟩ hsz2 ⟨post, hpost⟩
      obtain ⟨fn, tmps, assign, body, hyy, hRR⟩ := hY (upTo N n g t ++ pre) x W hj2 (by omega) (by
        obtain ⟨rest, hrest⟩ := upTo_rest N n g hlt
        exact ⟨post ++ rest, by unfold allWits; rw [hrest, hpost]; simp⟩)
      simp only [encW] at hyy
      have c0 : W.cell? ⟨Bx, 0, none⟩ = some (.int .i64 0) := by simp [World.cell?, hbx]
      have c1 : W.cell? ⟨Bx, 1, none⟩ = some (.int .i64 (x.1 : Nat)) := by simp [World.cell?, hbx]
      have c2 : W.cell? ⟨Bx, 2, none⟩ = some (.bool x.2.1) := by simp [World.cell?, hbx]
      gi_wp2
      refine ⟨rfl, RoundIn.mono (F := Fence.wide.inRound l2) hRR ?_⟩
      rintro e W' ⟨rfl, hJ', hf', ho⟩
      have hf2 : From w2.heap.size W W' := hf'.mono (by omega)
      have hl3 := hl2.from hf' (by omega)
      have e1 : W'.heap[wr.heap.size + 1]? = W.heap[wr.heap.size + 1]? := hf'.2 _ (by omega) (by omega)
      have e2 : W'.heap[wr.heap.size]? = W.heap[wr.heap.size]? := hf'.2 _ (by omega) (by omega)
      have e3 : W'.heap[W1.heap.size]? = W.heap[W1.heap.size]? := hf'.2 _ (by omega) (by omega)
      clear hf'
      gi_wp2
      obtain ⟨hL', _⟩ := hR _ _ hJ'
      refine ⟨⟨by rw [← List.append_assoc]; exact hJ', ⟨hL', ?_, ?_⟩, ?_⟩, by rw [← hs2]; exact hf2⟩
      · exact (World.cell?_of_block (a := ⟨wr.heap.size + 1, 0, none⟩) e1).trans hat2.tb
      · exact (World.cell?_of_block (a := ⟨wr.heap.size, 0, none⟩) e2).trans hat2.lb
      · exact (World.cell?_of_block (a := ⟨W1.heap.size, 0, none⟩) e3).trans hy2
    case done =>
      intro W ⟨k1, k2, k3, k4⟩ hszW hD
      gi_wp2
      refine ⟨⟨t + 1, w2.heap.size :: ds, _, _, _, _, _, _, _, _, _, _, _, _, _, _, _, _, by omega, by rw [upTo_succ]; exact k1, k3, by omega, Laid.cons k4 (fun E hE => by have := hlaid.lt hE; omega) (by omega) hD, rfl⟩, ?_⟩
      simp [intOf]
      omega
  · have : t = N + 1 := by omega
    subst this
    gi_wp2
    refine leaves_marks ds wr hlaid fun w' hb => ⟨_, results_none rfl _ _ _, ⟨_, rfl⟩, hJ _ _ _ hj (hb.mono (by omega)), ?_⟩
    have := hb.size
    omega
end Go.Proofs.Ytifbiamfandjnaa

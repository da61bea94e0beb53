import Derived.Test.YtbmfipjnfbnjgaaSingle
import Derived.Test.YtbmfipjnfbnjgaaSeqC
import Derived.Test.YtbmfipjnfbnjgaaSeqD
import Derived.Shelf.Abstract
import Derived.Shelf.RegionOpen
import Derived.OwnWalkIn
import Derived.TacticsInMore
import Derived.LoopNIn
import Derived.LoopIn
set_option linter.unusedSimpArgs false
set_option linter.unusedVariables false
namespace Go.Proofs.Ytbmfipjnfbnjgaa
open Go Go.Proofs Go.RowKit Go.Seq Go.Sample
attribute [local go_sem] Oper.semAt_some
/-- A course in memory: where its two lists lie, how long they are, and their numbers. -/
structure Crs where
  ga : Nat
  oa : Nat
  ca : Nat
  gr : Nat
  ro : Nat
  cr : Nat
  L : Nat
  A : Nat → Int
  R : Nat → Int
def Crs.sa (c : Crs) : Value := .slice (some ⟨c.ga, c.oa, none⟩) c.L c.ca
def Crs.sr (c : Crs) : Value := .slice (some ⟨c.gr, c.ro, none⟩) c.L c.cr
def Crs.val (c : Crs) : Value := .agg #[c.sa, c.sr]
structure CrsIn (W : World) (c : Crs) : Prop where
  las : ∀ k, k < c.L → W.cell? ⟨c.ga, c.oa + k, none⟩ = some (.int .i64 (c.A k))
  lrs : ∀ k, k < c.L → W.cell? ⟨c.gr, c.ro + k, none⟩ = some (.int .i64 (c.R k))
theorem cell_lt {W : World} {g k : Nat} {v : Value} (h : W.cell? ⟨g, k, none⟩ = some v) : g < W.heap.size := by
  rcases Nat.lt_or_ge g W.heap.size with h' | h'
  · exact h'
  · simp [World.cell?, Array.getElem?_eq_none h'] at h
theorem CrsIn.after {W W' : World} {c : Crs} (h : CrsIn W c) (hb : Below W.heap.size W W') : CrsIn W' c :=
  ⟨fun k hk => cell_below (h.las k hk) hb, fun k hk => cell_below (h.lrs k hk) hb⟩
theorem CrsIn.below {W W' : World} {c : Crs} {B : Nat} (h : CrsIn W c) (hb : Below B W W') (h1 : c.ga < B) (h2 : c.gr < B) : CrsIn W' c :=
  ⟨fun k hk => (hb.cell (p := ⟨c.ga, c.oa + k, none⟩) h1).trans (h.las k hk), fun k hk => (hb.cell (p := ⟨c.gr, c.ro + k, none⟩) h2).trans (h.lrs k hk)⟩
/-- A course in a variable: its block. -/
structure CrsBox (W : World) (b : Nat) (c : Crs) : Prop where
  own : Own2 W b c.sa c.sr
  inn : CrsIn W c
theorem CrsBox.after {W W' : World} {b : Nat} {c : Crs} (h : CrsBox W b c) (hb : Below W.heap.size W W') : CrsBox W' b c := ⟨h.own.after hb, h.inn.after hb⟩
theorem CrsBox.new {W : World} {c : Crs} (h : CrsIn W c) (t : TypeId) : CrsBox (W.alloc (.cells #[c.sa, c.sr] t)) W.heap.size c :=
  ⟨Own2.new _ _ _ _, h.after ((Below.refl _ _).alloc (Nat.le_refl _) _)⟩
abbrev Bnd := Nat × Int × Int
def encB (x : Bnd) : Array Value := #[.int .i64 (x.1 : Nat), .agg #[.int .i64 x.2.1, .int .i64 x.2.2]]
def bndAt (c : Crs) (k : Nat) : Bnd := (k + 1, c.A k, c.R k)
def bndTo (c : Crs) (k : Nat) : List Bnd := (List.range k).map (bndAt c)
def bnds (c : Crs) : List Bnd := bndTo c c.L
theorem bndTo_succ (c : Crs) (k : Nat) : bndTo c (k + 1) = bndTo c k ++ [bndAt c k] := by simp [bndTo, List.range_succ]
theorem bndTo_rest (c : Crs) {k : Nat} : ∀ {M}, k < M → ∃ rest, bndTo c M = bndTo c k ++ bndAt c k :: rest
  | 0, h => by omega
  | M + 1, h => by
    by_cases e : k = M
    · subst e; exact ⟨[], by rw [bndTo_succ]⟩
    · obtain ⟨rest, hr⟩ := bndTo_rest c (k := k) (M := M) (by omega)
      exact ⟨rest ++ [bndAt c M], by rw [bndTo_succ, hr]; simp⟩
theorem bounds_any {c : Crs} {W : World} (h : CrsIn W c) :
    Calls Try.prog 65 #[c.val] W fun e w' => e = .returned (.func (.func 72) #[] #[.pointer (some ⟨W.heap.size, 0, none⟩)]) ∧ w' = W.alloc (.cells #[c.sa, c.sr] 42) := by
  unfold Crs.val
  go_enter Try.func65, Try.ntmps65
  go_wp2
  go_ret
  exact ⟨rfl, rfl⟩
set_option maxRecDepth 100000 in
theorem bounds_gives {b : Nat} {c : Crs} (hL : c.L ≤ 1000) (W1 : World) :
    Gives Try.prog 72 #[.pointer (some ⟨b, 0, none⟩)] encB (bnds c) (fun W => CrsBox W b c) W1 := by
  intro l J hJ hR hY h0
  have hmx : Try.prog.follows .mixedOrders = true := by kernel_rfl
  obtain ⟨⟨k0, k1, _, _⟩, hin⟩ := hR _ _ h0
  unfold Crs.sa at k0
  unfold Crs.sr at k1
  refine callsIn_of_wp Try.func72 rfl trivial ?_ rfl
  simp only [Try.ntmps72, List.size_toArray, List.length_cons, List.length_nil, Nat.reduceAdd, Nat.reduceSub, Array.replicate_succ, Array.replicate_zero, List.push_toArray, List.append_toArray, List.nil_append, List.cons_append]
  gi_wp2
  gi_loopw [7] (fun i wr => ∃ k : Nat, k ≤ c.L ∧ i = .int .i64 k ∧ J (bndTo c k) wr ∧ W1.heap.size ≤ wr.heap.size) (fun i _ => c.L - (intOf i).toNat)
  case atStart => exact ⟨0, by omega, rfl, by simpa [bndTo] using h0, by simp⟩
  case round =>
    obtain ⟨k, hk, rfl, hj, hsz⟩ := hrel
    have hw1 : IntKind.i64.wrap ((k : Int) + 1) = (k : Int) + 1 := IntWalk.i64_in _ (by omega)
    by_cases hlt : k < c.L
    · have hlt' : (k : Int) < (c.L : Int) := by omega
      gi_wp2
      refine region_pivot 14 (fun b' w => J (if b' then bndTo c (k + 1) else bndTo c k) w ∧ W1.heap.size ≤ w.heap.size) hmx (by kernel_rfl) (by simp) ?_ ?_
      · exact ⟨hJ _ _ _ (by simpa using hj) ((Below.refl _ _).drew), hsz⟩
      have hCR : ∀ b' w, (J (if b' = true then bndTo c (k + 1) else bndTo c k) w ∧ W1.heap.size ≤ w.heap.size) → CrsBox w b c := fun b' w h => hR _ _ h.1
      have step : ∀ {i : Nat} {o : Oper} {a : Act} {v : Value}, (i == 14) = false → (∀ w, CrsBox w b c → (execOp a.eval o).run Try.prog w = .ok (.value v) w) → Tr Try.prog (fun b' w => J (if b' then bndTo c (k + 1) else bndTo c k) w ∧ W1.heap.size ≤ w.heap.size) 14 i o a v :=
        fun hi h => tr_read (fun W => CrsBox W b c) hi hCR h
      iterate 14
        (refine lex_want (by rfl) (step (by rfl) (fun w ⟨⟨k0, k1, _, _⟩, hin⟩ => (by
            have a1 := hin.las k hlt
            have r1 := hin.lrs k hlt
            unfold Crs.sa at k0
            unfold Crs.sr at k1
            go_simp
            try first | rfl | (rw [if_pos (by omega)])))) ?_
         simp only [Act.put, List.setIfInBounds_toArray, List.set_cons_succ, List.set_cons_zero, Nat.reduceAdd])
      refine lex_want (by rfl) (tr_yield (v := .bool true) (l := l) (args := encB (bndAt c k)) (by rfl) (fun w hC => ?_) (fun w => (by unfold encB bndAt; go_simp))) ?_
      · refine (hY (bndTo c k) (bndAt c k) w (by simpa using hC.1) hC.2 (bndTo_rest c hlt)).mono fun e w' h => ⟨h.1, by rw [if_pos rfl, bndTo_succ]; exact h.2.1, Nat.le_trans hC.2 h.2.2.1.1⟩
      simp only [Act.put, List.setIfInBounds_toArray, List.set_cons_succ, List.set_cons_zero, Nat.reduceAdd]
      refine lex_want (by rfl) (step (by rfl) (fun w _ => (by go_simp; try rfl))) ?_
      simp only [Act.put, List.setIfInBounds_toArray, List.set_cons_succ, List.set_cons_zero, Nat.reduceAdd]
      refine lex_nil fun w' ⟨hJ', hs'⟩ => ?_
      have hJ' : J (bndTo c (k + 1)) w' := by simpa using hJ'
      gi_wp2
      exact ⟨⟨k + 1, by omega, by go_num, hJ', hs'⟩, by simp [intOf]; omega⟩
    · have : k = c.L := by omega
      subst this
      gi_wp2
      go_end0
      exact ⟨⟨_, rfl⟩, hj, hsz⟩
end Go.Proofs.Ytbmfipjnfbnjgaa

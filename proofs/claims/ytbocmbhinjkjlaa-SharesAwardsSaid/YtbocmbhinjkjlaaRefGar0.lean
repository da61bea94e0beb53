/- The contested garment in the reference. -/
import Derived.Test.YtbocmbhinjkjlaaRedCalc
import Derived.Test.YtbocmbhinjkjlaaContest
set_option linter.unusedSimpArgs false
set_option linter.unusedVariables false
namespace Go.Proofs.Ytbocmbhinjkjlaa
open Go Go.Proofs Go.RowKit Go.Seq
/-- The class of the worlds behind calls that touch nothing that was. -/
def Cb (W : World) (_ : Nat → Bool) (w : World) : Prop := Below W.heap.size W w
theorem Cb.keep {W : World} {k : Nat} : ∀ s w, Cb W s w → Cb W (Many.upd s k) w := fun _ _ h => h
theorem Cb.start (W : World) : ∀ s : Nat → Bool, Cb W s W.drew := fun _ => (Below.refl _ _).drew
section
variable {P : Program} {W : World} {k : Nat} {o : Oper} {a : Act} {v : Value}
theorem rdb (h : ∀ w, Below W.heap.size W w → (execOp a.eval o).run P w = .ok (.value v) w) : Many.Tr P (Cb W) k o a v :=
  Many.tr_read (fun w => Below W.heap.size W w) (fun _ _ h => h) (fun _ _ h => h) h
theorem clb {f : FuncId} {args : Array Value} (hc : ∀ w, Calls P f args w fun e w' => e = .returned v ∧ Below w.heap.size w w') (h : ∀ w, Below W.heap.size W w → (execOp a.eval o).run P w = .ok (.enter f args) w) : Many.Tr P (Cb W) k o a v :=
  Many.tr_call (f := f) (args := args) (fun w => Below W.heap.size W w) (fun _ _ h => h) (fun s w hC => (hc w).mono fun e w' q => ⟨q.1, Below.trans hC (q.2.mono hC.size)⟩) h
theorem sts (h : ∀ w, Below W.heap.size W w → ∃ w', (execOp a.eval o).run P w = .ok .skip w' ∧ Below W.heap.size W w') : Many.Tr P (Cb W) k o a undef := by
  intro s w _ hC
  obtain ⟨w', h1, h2⟩ := h w hC
  rw [h1]
  exact ⟨rfl, h2⟩
end
/-- The same world but for one block of one's own. -/
structure Kv (b : Nat) (W W' : World) : Prop where
  os : W'.os = W.os
  tape : W'.tape = W.tape
  output : W'.output = W.output
  size : W.heap.size ≤ W'.heap.size
  block : ∀ k, k < W.heap.size → k ≠ b → W'.heap[k]? = W.heap[k]?
theorem Kv.of {b : Nat} {W W' : World} (h : Below W.heap.size W W') : Kv b W W' := ⟨h.os, h.tape, h.output, h.size, fun k hk _ => h.block k hk⟩
theorem Kv.trans {b : Nat} {A B C : World} (h : Kv b A B) (k : Kv b B C) : Kv b A C := ⟨k.os.trans h.os, k.tape.trans h.tape, k.output.trans h.output, Nat.le_trans h.size k.size, fun j hj hn => (k.block j (Nat.lt_of_lt_of_le hj h.size) hn).trans (h.block j hj hn)⟩
theorem Kv.set {b : Nat} {A W : World} (h : Kv b A W) (i : Nat) (u : Value) : Kv b A (W.setCell ⟨b, i, none⟩ u) := ⟨h.os, h.tape, h.output, by simpa [World.setCell] using h.size, fun k hk hn => (Below.heap_setCell _ _ _ _ (by exact hn)).trans (h.block k hk hn)⟩
theorem Kv.below {b B : Nat} {W W' : World} (h : Kv b W W') (hB : B ≤ b) (hs : B ≤ W.heap.size) : Below B W W' := ⟨h.os, h.tape, h.output, h.size, fun k hk => h.block k (by omega) (by omega)⟩
theorem Kv.own {b g : Nat} {W W' : World} (h : Kv b W W') (hn : g ≠ b) {x y : Value} (ho : Own2 W g x y) : Own2 W' g x y := by
  have hl := ho.lt
  exact ⟨(World.cell?_of_block (a := ⟨g, 0, none⟩) (h.block g hl hn)).trans ho.c0, (World.cell?_of_block (a := ⟨g, 1, none⟩) (h.block g hl hn)).trans ho.c1, (World.frozen?_of_block (a := ⟨g, 0, none⟩) (h.block g hl hn)).trans ho.f0, (World.frozen?_of_block (a := ⟨g, 1, none⟩) (h.block g hl hn)).trans ho.f1⟩
theorem Kv.at {b g : Nat} {W W' : World} (h : Kv b W W') (hn : g ≠ b) {c : Array Value} {t : TypeId} (ho : BlkAt W g c t) : BlkAt W' g c t := (h.block g ho.lt hn).trans ho
/-- The class of a region in which one variable is stored into. -/
def C1 (W : World) (b L : Nat) (o n : Array Value) (t : TypeId) (s : Nat → Bool) (w : World) : Prop := Kv b W w ∧ BlkAt w b (if s L = true then n else o) t
theorem C1.ext {W : World} {b L : Nat} {o n : Array Value} {t : TypeId} : ∀ (s s' : Nat → Bool) w, (∀ j, s j = s' j) → C1 W b L o n t s w → C1 W b L o n t s' w := fun s s' w h hC => by unfold C1 at *; rw [← h L]; exact hC
theorem C1.start {W : World} {b L : Nat} {o n : Array Value} {t : TypeId} (hb : BlkAt W b o t) {m : Nat} (hL : L < m) : ∀ s : Nat → Bool, (∀ j, j < m → s j = false) → C1 W b L o n t s W.drew := fun s hs =>
  ⟨⟨rfl, rfl, rfl, Nat.le_refl _, fun _ _ _ => rfl⟩, by rw [if_neg (by rw [hs L hL]; simp)]; exact hb⟩
theorem C1.skip {W : World} {b L k : Nat} {o n : Array Value} {t : TypeId} (hk : (k == L) = false) : ∀ s w, C1 W b L o n t s w → C1 W b L o n t (Many.upd s k) w := fun s w h => by
  unfold C1 at *
  rw [show Many.upd s k L = s L by simp only [Many.upd, hk]; simp]
  exact h
section
variable {P : Program} {ops : Array Oper} {W : World} {b L k : Nat} {on nn : Array Value} {tt : TypeId} {o : Oper} {a : Act} {v : Value}
theorem rd1 (hk : (k == L) = false) (h : ∀ w, Kv b W w → (execOp a.eval o).run P w = .ok (.value v) w) : Many.Tr P (C1 W b L on nn tt) k o a v := by
  intro s w _ hC
  rw [h w hC.1]
  exact ⟨rfl, C1.skip hk s w hC⟩
theorem cl1 {f : FuncId} {args : Array Value} (hk : (k == L) = false) (hc : ∀ w, Calls P f args w fun e w' => e = .returned v ∧ Below w.heap.size w w') (h : ∀ w, Kv b W w → (execOp a.eval o).run P w = .ok (.enter f args) w) : Many.Tr P (C1 W b L on nn tt) k o a v := by
  intro s w _ hC
  rw [h w hC.1]
  exact (hc w).mono fun e w' q => ⟨q.1, C1.skip hk s w' ⟨hC.1.trans (Kv.of q.2), hC.2.after q.2⟩⟩
theorem st1 {x y x0 y0 : Value} (hk : (k == L) = true) (h : ∀ w, Kv b W w → Own2 w b x0 y0 → (execOp a.eval o).run P w = .ok .skip ((w.setCell ⟨b, 0, none⟩ x).setCell ⟨b, 1, none⟩ y)) : Many.Tr P (C1 W b L #[x0, y0] #[x, y] tt) k o a undef := by
  intro s w hs hC
  have e : k = L := by simpa using hk
  subst e
  have h2 := hC.2
  rw [if_neg (by rw [hs]; simp)] at h2
  rw [h w hC.1 (Own2.of h2)]
  refine ⟨rfl, (hC.1.set _ _).set _ _, ?_⟩
  rw [if_pos (by simp [Many.upd])]
  exact (h2.set 0 x).set 1 y
end
def restV (n d c : Int) : Value := redV (over n (c * d)) d
end Go.Proofs.Ytbocmbhinjkjlaa

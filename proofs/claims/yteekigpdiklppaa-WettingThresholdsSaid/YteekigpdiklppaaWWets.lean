import Derived.Test.YteekigpdiklppaaWSoak
import Derived.Test.YteekigpdiklppaaWClos
import Derived.Test.YteekigpdiklppaaWForce
set_option linter.unusedSimpArgs false
set_option linter.unusedVariables false
namespace Go.Proofs.Yteekigpdiklppaa
open Go Go.Proofs Go.RowKit Go.Seq
attribute [local go_sem] Oper.semAt_some
def fround (adj : Nat → Nat → Bool) (wet : Nat → Bool) : Nat → Bool := fcd adj wet (vsTo wet 12)
theorem rnd_force (b n : Nat) (adj : Nat → Nat → Bool) : Rnd 59 #[.pointer (some ⟨b, 0, none⟩)] #[] (fround adj) (fun W => GraphAt W b n adj) :=
  ⟨enters_of Try.func59 (by kernel_rfl) rfl, fun s W h => by simpa [fround] using force_any s h⟩
theorem rnd_soak (b n bg br : Nat) (adj : Nat → Nat → Bool) (r : Int) (hn : n ≤ 12) : Rnd 86 #[] #[.pointer (some ⟨bg, 0, none⟩), .pointer (some ⟨br, 0, none⟩)] (sokd n adj r) (fun W => GraphAt W b n adj ∧ W.cell? ⟨bg, 0, none⟩ = some (.pointer (some ⟨b, 0, none⟩)) ∧ W.cell? ⟨br, 0, none⟩ = some (.int .i64 r)) :=
  ⟨enters_of Try.func86 (by kernel_rfl) rfl, fun s W h => by simpa using soak1_any s h.1 hn h.2.1 h.2.2⟩
set_option maxRecDepth 100000 in
theorem soak_any (b : Nat) (r : Int) (w : World) : Calls Try.prog 67 #[.pointer (some ⟨b, 0, none⟩), .int .i64 r] w fun e w' => e = .returned (.func (.func 86) #[] #[.pointer (some ⟨w.heap.size, 0, none⟩), .pointer (some ⟨w.heap.size + 1, 0, none⟩)]) ∧ w' = (w.alloc (.cells #[.pointer (some ⟨b, 0, none⟩)] 77)).alloc (.cells #[.int .i64 r] 3) := by
  go_enter Try.func67, Try.ntmps67
  go_wp2
  go_ret
  exact ⟨rfl, rfl⟩
def allS (n : Nat) : Nat → Bool := fun j => decide (j < n)
set_option maxHeartbeats 2000000 in
set_option maxRecDepth 100000 in
theorem wets_any {b n K f : Nat} {bd cp : Array Value} {adj : Nat → Nat → Bool} {rd : (Nat → Bool) → Nat → Bool} {R : World → Prop} {s : Nat → Bool} {w : World} (hg : GraphAt w b n adj) (hn : n ≤ 12) (hq : Rnd f bd cp rd R) (hK : Stops rd s K)
    (hR : ∀ W, Below w.heap.size w W → R W) :
    Calls Try.prog 75 #[.pointer (some ⟨b, 0, none⟩), setV s, .func (.func f) bd cp] w fun e w' => e = .returned (.bool (eqb (stg rd s K) (allS n))) ∧ Below w.heap.size w w' := by
  have hmx : Try.prog.follows .mixedOrders = true := by kernel_rfl
  obtain ⟨F, hF⟩ : ∃ F, stg rd s K = F := ⟨_, rfl⟩
  obtain ⟨A, hA⟩ : ∃ A, allS n = A := ⟨_, rfl⟩
  obtain ⟨wa, hwa⟩ : ∃ wa, w.alloc (.cells (sc s) 79) = wa := ⟨_, rfl⟩
  have ba : Below w.heap.size w wa := by rw [← hwa]; exact (Below.refl _ _).alloc (Nat.le_refl _) _
  have fa : SetAt wa w.heap.size s := by rw [← hwa]; exact SetAt.new _ _
  obtain ⟨x0, x1, x2, x3, x4, x5, x6, x7, x8, x9, x10, x11⟩ := fa.c12
  have q58 := closure_any (w := wa) hq hK (fun W hb => hR W (ba.trans (hb.mono ba.size)))
  have q84 := Keep.mk (fun W (h : GraphAt W b n adj) => all_any h hn)
  rw [hF] at q58 ⊢
  rw [show (fun j => decide (j < n)) = A from hA] at q84
  rw [hA]
  obtain ⟨z, hz⟩ : ∃ z, eqb F A = z := ⟨_, rfl⟩
  have heq := fun w => eq49 F A w
  rw [show ((List.range 12).all fun k => F k == A k) = z from hz] at heq
  rw [hz]
  have hgk := Keep.mk hg
  have bak := Keep.mk ba
  clear fa ba hg hF hA hz
  unfold setV sc at *
  go_enter Try.func75, Try.ntmps75
  go_wp2_with (first
    | (go_at_call 58; (with_reducible refine q58.mono ?_); rintro e w5 ⟨rfl, hb5⟩
       obtain ⟨w6, hw6⟩ : ∃ w6, w5.alloc (.cells (sc F) 79) = w6 := ⟨_, rfl⟩
       have hb6 : Below w5.heap.size w5 w6 := by rw [← hw6]; exact (Below.refl _ _).alloc (Nat.le_refl _) _
       have hf6 : SetAt w6 w5.heap.size F := by rw [← hw6]; exact SetAt.new _ _
       have hbb := Keep.mk (bak.out.trans ((hb5.trans (hb6.mono hb5.size)).mono bak.out.size))
       have hf6k := Keep.mk hf6
       clear hb5 hb6 hf6
       unfold sc at hw6))
  have hI : GraphAt w6 b n adj ∧ SetAt w6 w5.heap.size F ∧ Below w.heap.size w w6 := ⟨hgk.out.below hbb.out hgk.out.lt, hf6k.out, hbb.out⟩
  obtain ⟨CX, hCX⟩ : ∃ CX : World → Prop, CX = fun W => GraphAt W b n adj ∧ SetAt W w5.heap.size F ∧ Below w.heap.size w W := ⟨_, rfl⟩
  have hCa : ∀ W W', CX W → Below W.heap.size W W' → CX W' := fun W W' h hb => by
    rw [hCX] at h ⊢; exact ⟨h.1.below hb h.1.lt, h.2.1.after hb, h.2.2.trans (hb.mono h.2.2.size)⟩
  have hCg : ∀ W, CX W → GraphAt W b n adj ∧ SetAt W w5.heap.size F ∧ Below w.heap.size w W := fun W h => by rw [hCX] at h; exact h
  have hC0 : CX w6 := by rw [hCX]; exact hI
  clear hCX hI hf6k hbb hgk hw6
  refine (wpIn_wide (n := 0)).1 ?_
  refine Many.region_many (fun _ W => CX W) hmx (by kernel_rfl) (fun s s' W' h hc => hc) (fun s hs => hCa _ _ hC0 ((Below.refl _ _).drew)) ?_
  refine Many.lex_want (by rfl) (Many.tr_read (v := .agg #[.bool (F 0), .bool (F 1), .bool (F 2), .bool (F 3), .bool (F 4), .bool (F 5), .bool (F 6), .bool (F 7), .bool (F 8), .bool (F 9), .bool (F 10), .bool (F 11)]) CX (fun s W h => h) (fun s W h => h) (fun W h => by
    obtain ⟨e0, e1, e2, e3, e4, e5, e6, e7, e8, e9, e10, e11⟩ := (hCg W h).2.1.c12
    clear h; go_simp; (try rfl))) ?_
  simp only [Act.put, List.setIfInBounds_toArray, List.set_cons_succ, List.set_cons_zero, Nat.reduceAdd]
  refine Many.lex_want (by rfl) (Many.tr_read (v := .pointer (some ⟨b, 0, none⟩)) CX (fun s W h => h) (fun s W h => h) (fun W h => by clear h; go_simp; (try rfl))) ?_
  simp only [Act.put, List.setIfInBounds_toArray, List.set_cons_succ, List.set_cons_zero, Nat.reduceAdd]
  refine Many.lex_want (by rfl) (Many.tr_call (v := .agg #[.bool (A 0), .bool (A 1), .bool (A 2), .bool (A 3), .bool (A 4), .bool (A 5), .bool (A 6), .bool (A 7), .bool (A 8), .bool (A 9), .bool (A 10), .bool (A 11)]) (f := 84) (args := #[.pointer (some ⟨b, 0, none⟩)]) CX (fun s W h => h) (fun s W h => (q84.out W (hCg W h).1).mono (fun e W' hw' => ⟨hw'.1, hCa _ _ h hw'.2⟩)) (fun W h => by clear h; go_simp; try rfl)) ?_
  simp only [Act.put, List.setIfInBounds_toArray, List.set_cons_succ, List.set_cons_zero, Nat.reduceAdd]
  refine Many.lex_want (by rfl) (Many.tr_read (v := .bool z) CX (fun s W h => h) (fun s W h => h) (fun W h => by clear h; go_simp; (try rfl))) ?_
  simp only [Act.put, List.setIfInBounds_toArray, List.set_cons_succ, List.set_cons_zero, Nat.reduceAdd]
  refine Many.lex_want (by rfl) (Many.tr_read (v := .bool z) CX (fun s W h => h) (fun s W h => h) (fun W h => by clear h; go_simp; (try rfl))) ?_
  simp only [Act.put, List.setIfInBounds_toArray, List.set_cons_succ, List.set_cons_zero, Nat.reduceAdd]
  refine Many.lex_nil fun s9 W4 hs9 hS4 => ?_
  have hb4 := (hCg _ hS4).2.2
  clear hS4
  go_wp2
  go_ret
  exact ⟨rfl, hb4⟩
end Go.Proofs.Yteekigpdiklppaa

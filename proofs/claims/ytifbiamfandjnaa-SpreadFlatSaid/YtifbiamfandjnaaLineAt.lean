import Derived.Test.YtifbiamfandjnaaLowest
set_option linter.unusedSimpArgs false
set_option linter.unusedVariables false
namespace Go.Proofs.Ytifbiamfandjnaa
open Go Go.Proofs Go.RowKit
/-- A line that has been read: its scale, how many points, and the counts below. -/
structure LineAt (W : World) (b N n : Nat) (g : Nat → Nat) : Prop where
  scale : W.cell? ⟨b, 0, none⟩ = some (.int .i64 N)
  size : W.cell? ⟨b, 1, none⟩ = some (.int .i64 n)
  at_ : ∀ k, k ≤ 1000 → W.cell? ⟨b, 2 + k, none⟩ = some (.int .i64 (g k))
  hN : N ≤ 1000
  hn : n ≤ 60
  hg : ∀ k, k ≤ 1000 → g k ≤ 60
theorem LineAt.lt {W : World} {b N n : Nat} {g : Nat → Nat} (h : LineAt W b N n g) : b < W.heap.size := by
  rcases Nat.lt_or_ge b W.heap.size with h' | h'
  · exact h'
  · have := h.scale; simp [World.cell?, Array.getElem?_eq_none h'] at this
theorem LineAt.same {W W' : World} {b N n : Nat} {g : Nat → Nat} (h : LineAt W b N n g) (e : W'.heap[b]? = W.heap[b]?) : LineAt W' b N n g :=
  ⟨(World.cell?_of_block (a := ⟨b, 0, none⟩) e).trans h.scale, (World.cell?_of_block (a := ⟨b, 1, none⟩) e).trans h.size, fun k hk => (World.cell?_of_block (a := ⟨b, 2 + k, none⟩) e).trans (h.at_ k hk), h.hN, h.hn, h.hg⟩
theorem LineAt.below {W W' : World} {B b N n : Nat} {g : Nat → Nat} (h : LineAt W b N n g) (hb : Below B W W') (hlt : b < B) : LineAt W' b N n g := h.same (hb.block b hlt)
theorem LineAt.drewN {W : World} {b N n : Nat} {g : Nat → Nat} (h : LineAt W b N n g) (m : Nat) : LineAt (W.drewN m) b N n g := h.same rfl
def exc (N n c t : Nat) : Int := (c : Int) * (N : Int) - (t : Int) * (n : Int)
theorem exc_le {N n c t : Nat} (hN : N ≤ 1000) (hn : n ≤ 60) (hc : c ≤ 60) (ht : t ≤ 1000) : -60000 ≤ exc N n c t ∧ exc N n c t ≤ 60000 := by
  have h1 : c * N ≤ 60 * 1000 := Nat.mul_le_mul hc hN
  have h2 : t * n ≤ 1000 * 60 := Nat.mul_le_mul ht hn
  unfold exc
  omega
theorem excess_any {b N n c t : Nat} {g : Nat → Nat} {w : World} (hL : LineAt w b N n g) (hc : c ≤ 60) (ht : t ≤ 1000) :
    Calls Try.prog 62 #[.pointer (some ⟨b, 0, none⟩), .int .i64 c, .int .i64 t] w fun e w' => e = .returned (.int .i64 (exc N n c t)) ∧ ∃ n, w' = w.drewN n := by
  obtain ⟨h1, h2, _, hN, hn, _⟩ := hL
  have hm1 : c * N ≤ 60 * 1000 := Nat.mul_le_mul hc hN
  have hm2 : t * n ≤ 1000 * 60 := Nat.mul_le_mul ht hn
  have k1 : IntKind.i64.wrap ((c : Int) * (N : Int)) = (c : Int) * (N : Int) := IntWalk.i64_in _ (by omega)
  have k2 : IntKind.i64.wrap ((t : Int) * (n : Int)) = (t : Int) * (n : Int) := IntWalk.i64_in _ (by omega)
  have k3 : IntKind.i64.wrap ((c : Int) * (N : Int) - (t : Int) * (n : Int)) = (c : Int) * (N : Int) - (t : Int) * (n : Int) := IntWalk.i64_in _ (by omega)
  unfold exc
  go_enter Try.func62, Try.ntmps62
  go_wp2
  go_quiet (fail)
  go_wp2
  go_ret
  exact ⟨rfl, nq, rfl⟩
end Go.Proofs.Ytifbiamfandjnaa

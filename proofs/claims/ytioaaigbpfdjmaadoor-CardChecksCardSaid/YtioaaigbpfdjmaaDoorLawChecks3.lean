import Derived.Test.YtioaaigbpfdjmaaDoorLawChecks2
import Derived.Deep.QuietTactic
import Derived.BigQuiet
set_option linter.unusedSimpArgs false
set_option linter.unusedVariables false
namespace Go.Proofs.YtioaaigbpfdjmaaDoor
open Go Go.Proofs Go.RowKit Go.CRun
theorem texts_take {w : World} {A : Option Addr} {cap k : Nat} {L : List ByteArray} (h : TextsAt w (.slice A L.length cap) L) (hk : k ≤ L.length) : TextsAt w (.slice A k cap) (L.take k) := by
  obtain ⟨A1, cap1, e, hc⟩ := h
  injection e with e1 _ e2
  subst e1
  subst e2
  refine ⟨A, cap, by rw [List.length_take, Nat.min_eq_left hk], fun j hj => ?_⟩
  rw [List.length_take, Nat.min_eq_left hk] at hj
  obtain ⟨g, o, hA, hg⟩ := hc j (by omega)
  refine ⟨g, o, hA, ?_⟩
  rw [hg, List.getD_eq_getElem?_getD, List.getD_eq_getElem?_getD, List.getElem?_take_of_lt hj]
theorem few_id {L : List ByteArray} (h : ∀ c ∈ L, c.size ≤ 8) (hl : L.length ≤ 34) : fewOf L = L := by
  unfold fewOf
  rw [List.take_of_length_le hl]
  conv => rhs; rw [← List.map_id L]
  exact List.map_congr_left fun c hc => cut8_id (h c hc)
theorem texts_news {w : World} {g o cap k : Nat} {L : List ByteArray} (h : TextsAt w (.slice (some ⟨g, o, none⟩) L.length cap) L) (hk : k < L.length) :
    ((L.drop (k + 1)).map vs).length = (L.length - (k + 1)) * 1 ∧ ∀ j u, ((L.drop (k + 1)).map vs)[j]? = some u → w.cell? ((⟨g, o + (k + 1), none⟩ : Addr).add j) = some u := by
  refine ⟨by simp, fun j u hu => ?_⟩
  obtain ⟨A1, cap1, e, hc⟩ := h
  injection e with e1 _ e2
  subst e1
  have hadd : (⟨g, o + (k + 1), none⟩ : Addr).add j = ⟨g, o + (k + 1 + j), none⟩ := by unfold Addr.add; split <;> simp_all <;> omega
  rw [List.getElem?_map, List.getElem?_drop] at hu
  have hj : k + 1 + j < L.length := by
    rcases Nat.lt_or_ge (k + 1 + j) L.length with h | h
    · exact h
    · rw [List.getElem?_eq_none h] at hu; cases hu
  rw [List.getElem?_eq_getElem hj] at hu
  obtain ⟨g', o', e3, hg⟩ := hc (k + 1 + j) hj
  injection e3 with e3
  injection e3 with e4 e5
  subst e4
  subst e5
  rw [hadd, hg, List.getD_eq_getElem?_getD, List.getElem?_eq_getElem hj]
  simpa [vs] using hu
theorem step_append_own {P : Program} {w : World} {ops : Array Oper} {o : Oper} {a : Act} {K : Act → World → Prop} {Q : Exit → Act → World → Prop} {E : Prop} (hw : Region.wanted o (yielded ops a.tmps) = true) (s x : Operand) (t : TypeId)
    (ho : o.op = .call { callee := .builtin .append, args := #[s, x], argTypes := #[t, t] })
    (base : Nat) (e : TypeId) (i : TypeInfo) (z : Value) (size bytes : Nat) (ht : P.underlying t = some (.slice e)) (hi : P.info? e = some i) (hz : i.zero = some z)
    (hsize : i.size = size) (hby : i.bytes = bytes) (hzs : z.cells.size = size) (hsz : 0 < size)
    (v : Value) (n : Nat) (xs : List Value) (hs : a.eval s = v) (hown : w.ownsRow base e size v n xs)
    (ad : Addr) (m c : Nat) (news : List Value) (hx : a.eval x = .slice (some ad) m c) (hl : news.length = m * size ∧ ∀ j u, news[j]? = some u → w.cell? (ad.add j) = some u) (h1 : ∀ u ∈ news, u.oneCell' = true)
    (h63 : n + m ≤ maxLen) (hbytes : (n + m) * bytes ≤ 140737488355328) (hbase : base ≤ w.heap.size)
    (h : ∀ v' w', w'.ownsRow base e size v' (n + m) (xs ++ news) → w.grownBy w' v.ownBlock → K (a.put o.dst v') w') :
    if Region.wanted o (yielded ops a.tmps) = true then Oper.wp P o a w K Q else E := by
  rw [if_pos hw]
  exact wp_append_own w s x t ho base e i z size bytes ht hi hz hsize hby hzs hsz v n xs hs hown ad m c news hx hl.1 hl.2 h1 h63 hbytes hbase fun v' w' h2 h3 _ => h v' w' h2 h3
theorem wo_len {L : List ByteArray} {k : Nat} (h : k < L.length) : (wo L k).length = k + (L.length - (k + 1)) := by
  unfold wo; rw [List.length_append, List.length_take, List.length_drop, Nat.min_eq_left (by omega)]
theorem wo_mem {L : List ByteArray} {k : Nat} {c : ByteArray} (h : c ∈ wo L k) : c ∈ L := by
  unfold wo at h
  rw [List.mem_append] at h
  rcases h with h | h
  · exact List.mem_of_mem_take h
  · exact List.mem_of_mem_drop h
theorem texts_none {w : World} {ad : Addr} {k : Nat} {L : List ByteArray} (hk : L.length = k + 1) :
    ((L.drop (k + 1)).map vs).length = (L.length - (k + 1)) * 1 ∧ ∀ j u, ((L.drop (k + 1)).map vs)[j]? = some u → w.cell? (ad.add j) = some u := by
  refine ⟨by simp, fun j u hu => ?_⟩
  rw [List.drop_eq_nil_of_le (by omega)] at hu
  simp at hu
theorem all_range {p : Nat → Bool} (k : Nat) : (List.range (k + 1)).all p = ((List.range k).all p && p k) := by
  rw [List.range_succ, List.all_append]; simp
set_option maxHeartbeats 2000000 in
set_option maxRecDepth 100000 in
theorem checks_cov {s q : ByteArray} {v : Value} {ls L : List ByteArray} {w : World} {n : Nat} (hsz : s.size ≤ 9223372036854775807) (hv : TextsAt w v ls) (hls : Keep (∀ s ∈ ls, s.size ≤ 9223372036854775807)) (hT : TabW w)
    (hq : Keep (shortOf s = q)) (h40 : q.size ≤ 40) (hL : Keep (fewOf ls = L)) (hlen : L.length ≤ 32) (hLs : Keep (∀ c ∈ L, c.size ≤ 8)) (hn : Keep (varsOf q = n)) (h0 : n ≠ 0) (hall : ∀ c ∈ L, okN n c = true) (hcv : covB q L = true) :
    Calls Tryd.prog 5 #[.string s, v] w fun e w' => e = .returned (.bool true) ∧ Below w.heap.size w w' := by
  have hTk := Keep.mk hT
  have hvk := Keep.mk hv
  have hLs8 := hLs
  have hLs : Keep (∀ c ∈ L, c.size ≤ 40) := ⟨fun c hc => Nat.le_trans (hLs8.out c hc) (by omega)⟩
  have hch : Keep (chkN q L = 0) := ⟨by
    have : validB q L = true := by
      unfold validB allN
      rw [hn.out, List.all_eq_true.2 hall, decide_eq_true h0, decide_eq_true hlen]; rfl
    unfold chkN; rw [this, hcv]; rfl⟩
  obtain ⟨r, hr⟩ : ∃ r, Keep (irrB q L = r) := ⟨_, ⟨rfl⟩⟩
  have hir : Keep (r = (decide (chkN q L = 0) && irrB q L)) := ⟨by rw [hch.out, hr.out]; rfl⟩
  have hallk := Keep.mk hall
  have hcvk := Keep.mk hcv
  have hokk : Keep (∀ c ∈ L, c.size ≤ 40 ∧ okCube c = true) := ⟨fun c hc => ⟨hLs.out c hc, by have := hall c hc; unfold okN at this; rw [Bool.and_eq_true] at this; exact this.1⟩⟩
  clear hall hcv
  have hd1 : 0 < n := by omega
  have hd2 : (L.length : Int) ≤ 32 := by omega
  clear hT hv h0
  go_enter Tryd.func5, Tryd.ntmps5
  go_wp2_with (first
    | (go_at_call 15; refine (short_any s hsz _).mono ?_; rintro e w ⟨rfl, rfl⟩; rw [hq.out])
    | (go_at_call 32; refine (few_any hvk.out hls).mono ?_; rintro e w2 ⟨l, rfl, hown, hb2⟩
       rw [hL.out] at hown
       obtain ⟨A, cap, rfl, hcl, hcm⟩ := own_shape hown
       have ht2 : Keep (TextsAt w2 (.slice A L.length cap) L) := ⟨own_texts hown⟩
       have hB2 : Keep (Below w.heap.size w w2) := ⟨hb2⟩
       clear hown hb2)
    | (go_at_call 31; refine (check_any h40 ht2.out hLs).mono ?_; rintro e w3 ⟨rfl, hb3⟩; rw [hch.out]
       have ht3 : Keep (TextsAt w3 (.slice A L.length cap) L) := ⟨texts_below ht2.out hb3⟩
       have hB3 : Keep (Below w.heap.size w w3) := ⟨below_trans hB2.out hb3 hB2.out.size⟩
       clear hb3)
    | (go_at_call 33; refine (irr_any h40 ht3.out hLs hir).mono ?_; rintro e w4 ⟨rfl, hb4⟩; rw [hch.out]
       have ht4 : Keep (TextsAt w4 (.slice A L.length cap) L) := ⟨texts_below ht3.out hb4⟩
       have hB4 : Keep (Below w.heap.size w w4) := ⟨below_trans hB3.out hb4 hB3.out.size⟩
       clear hb4)
    | (go_at_call 19; refine (vars_any q h40 _).mono ?_; rintro e w5 ⟨rfl, rfl⟩; rw [hn.out]))
  clear hd1 hd2
  go_loop [11, 12] (fun b i => ∃ k : Nat, k ≤ L.length ∧ i = .int .i64 k ∧ b = .bool true) (fun _ i => L.length - (intOf i).toNat)
  case atStart => exact ⟨0, by omega, rfl, rfl⟩
  case round =>
    obtain ⟨k, hk, rfl, rfl⟩ := hrel
    by_cases hlt : k < L.length
    · obtain ⟨A1, cap1, e1, hc1⟩ := ht4.out
      injection e1 with e1 _ e2
      subst e1
      subst e2
      obtain ⟨g, o, rfl, hg⟩ := hc1 k hlt
      have hx8 := hLs8.out _ (getx hlt)
      have hxo := hallk.out _ (getx hlt)
      generalize L.getD k ByteArray.empty = c at hg hx8 hxo
      have hxk := Keep.mk hxo
      clear hc1 hxo
      go_wp2_with (go_at_call 27; refine (refCube_any c n _ (by omega)).mono ?_; rintro e w6 ⟨rfl, rfl⟩; rw [ok_int, hxk.out])
      exact ⟨⟨k + 1, by omega, by go_num, rfl⟩, by simp [intOf]; omega⟩
    · have : k = L.length := by omega
      subst this
      go_wp2_with (go_at_call 29; refine (refCovers_any h40 (by omega) ht4.out hokk).mono ?_; rintro e w6 ⟨rfl, hb6⟩; rw [hcvk.out]
                   have hB6 : Keep (Below w.heap.size w w6) := ⟨below_trans hB4.out hb6 hB4.out.size⟩
                   have ht6 : Keep (TextsAt w6 (.slice A L.length cap) L) := ⟨texts_below ht4.out hb6⟩
                   clear hb6)
      have hB7 := hB6.out
      have hB6k := hB6
      clear ht4 hB4
      go_loopw [13, 14] (fun b i wr => ∃ (k : Nat) (x : Bool), k ≤ L.length ∧ i = .int .i64 k ∧ b = .bool x ∧ Keep ((List.range k).all (fun i => !covB q (wo L i)) = x) ∧ Keep (Below w.heap.size w wr) ∧ Keep (TextsAt wr (.slice A L.length cap) L)) (fun _ i _ => L.length - (intOf i).toNat)
      case atStart => exact ⟨0, true, by omega, rfl, rfl, ⟨rfl⟩, hB6k, ht6⟩
      case round =>
        clear ht6 hB6 hB7
        obtain ⟨k, x, hk, rfl, rfl, hx, hBr, htr⟩ := hrel
        by_cases hlt : k < L.length
        · have hp := all_range (p := fun i => !covB q (wo L i)) k
          rw [hx.out] at hp
          have hpk := Keep.mk hp
          clear hp
          cases x
          · go_wp2
            go_quiet (fail)
            go_wp2
            exact ⟨⟨k + 1, false, by omega, by go_num, rfl, ⟨by rw [hpk.out]; rfl⟩, ⟨below_drewN hBr.out _⟩, ⟨texts_below htr.out (below_drewN (Below.refl _ _) _)⟩⟩, by simp [intOf]; omega⟩
          · obtain ⟨i0, hi, hz0, hz1, hz2⟩ := info_parts info9
            obtain ⟨cw, hcw⟩ : ∃ c, Keep (covB q (wo L k) = c) := ⟨_, ⟨rfl⟩⟩
            have hwok : Keep (∀ c ∈ wo L k, c.size ≤ 40 ∧ okCube c = true) := ⟨fun c hc => hokk.out c (wo_mem hc)⟩
            have hwl := wo_len hlt
            obtain ⟨g, o, rfl, _⟩ : ∃ g o, A = some ⟨g, o, none⟩ ∧ True := by
              obtain ⟨A1, cap1, e1, hc1⟩ := htr.out
              injection e1 with e1 _ e2
              subst e1
              obtain ⟨g, o, hA, _⟩ := hc1 k hlt
              exact ⟨g, o, hA, trivial⟩
            have hBd : Keep (Below w.heap.size w wr.drew) := ⟨below_drewN hBr.out 1⟩
            have htd : Keep (TextsAt wr.drew (.slice (some ⟨g, o, none⟩) L.length cap) L) := ⟨texts_below htr.out (below_drewN (Below.refl _ _) 1)⟩
            have htk : Keep (fewOf (L.take k) = L.take k) := ⟨few_id (fun c hc => hLs8.out c (List.mem_of_mem_take hc)) (by rw [List.length_take]; omega)⟩
            have htl : (L.take k).length = k := by rw [List.length_take]; omega
            have hwr : IntKind.i64.wrap (↑k + 1) = (k : Int) + 1 := by rw [IntKind.wrap_i64]; omega
            have f1 : (0 : Int) ≤ (k : Int) := by omega
            have f3 : (0 : Int) ≤ (k : Int) + 1 := by omega
            have f4 : (k : Int) + 1 ≤ (L.length : Int) := by omega
            have f5 : ((k : Int) + 1).toNat = k + 1 := by omega
            by_cases hck1 : cap = k + 1
            · have hLk : Keep (L.length = k + 1) := ⟨by omega⟩
              subst hck1
              have hwo : Keep (wo L k = L.take k) := ⟨by unfold wo; rw [List.drop_eq_nil_of_le (by have := hLk.out; omega), List.append_nil]⟩
              have f2 : (k : Int) ≤ ((k + 1 : Nat) : Int) := by omega
              have f2b : (k : Int) ≤ (k : Int) + 1 := by omega
              go_wp2
              go_region_held3 (fun _ => True)
                (first | exact trivial | go_keep)
                (first
                  | (go_at_call 32; (with_reducible refine (few_any (texts_take htd.out hk) ⟨fun c hc => by have := hLs8.out c (List.mem_of_mem_take hc); omega⟩).mono ?_); rintro e w8 ⟨l8, rfl, hown8, hb8⟩; rw [htk.out] at hown8; unfold OwnTexts at hown8; rw [htl] at hown8; have hown8' : w8.ownsRow wr.drew.heap.size 9 1 l8 k ((L.take k).map vs) := hown8; have hb8k : Keep (Below wr.drew.heap.size wr.drew w8) := ⟨hb8⟩; have hB8 : Keep (Below w.heap.size w w8) := ⟨below_trans hBd.out hb8 hBd.out.size⟩; have ht8 : Keep (TextsAt w8 (.slice (some ⟨g, o, none⟩) L.length (k + 1)) L) := ⟨texts_below htd.out hb8⟩; clear hown8 hb8; go_simp)
                  | (refine step_append_own (by first | rfl | go_simp) _ _ 23 rfl wr.drew.heap.size 9 i0 (.string ByteArray.empty) 1 16 ty23 hi hz0 hz1 hz2 rfl (by decide) _ _ _ rfl hown8' _ _ _ [] rfl ⟨rfl, fun j u hu => by simp at hu⟩ (fun x hx => by simp at hx) (by unfold maxLen; omega) (by omega) hb8k.out.size ?_; intro v9 w9 hown9 hgrow9; have ht9 : Keep (TextsAt w9 v9 (wo L k)) := ⟨own_texts (by rw [hwo.out, htl]; simpa using hown9)⟩; have hb89 : Below wr.drew.heap.size wr.drew w9 := Below.grown hb8k.out hgrow9 hb8k.out.size (fun j hj => (hown8'.lt _ hj).1); have ht9L : Keep (TextsAt w9 (.slice (some ⟨g, o, none⟩) L.length (k + 1)) L) := ⟨texts_below htd.out hb89⟩; have hB9 : Keep (Below w.heap.size w w9) := ⟨below_trans hBd.out hb89 hBd.out.size⟩; clear hb89 hown9 hgrow9 hown8'; go_simp)
                  | (go_at_call 29; (with_reducible refine (refCovers_any h40 (by rw [hwl]; omega) ht9.out hwok).mono ?_); rintro e w10 ⟨rfl, hb10⟩; rw [hcw.out]; have ht10L := texts_below ht9L.out hb10; have hB10 : Keep (Below w.heap.size w w10) := ⟨below_trans hB9.out hb10 hB9.out.size⟩; clear hb10; go_simp))
              go_wp2
              exact ⟨⟨k + 1, _, by omega, by go_num, rfl, ⟨by rw [hpk.out, hcw.out]; rfl⟩, hB10, ⟨ht10L⟩⟩, by simp [intOf]; omega⟩
            · have f2 : (k : Int) ≤ (cap : Int) := by omega
              go_wp2
              go_region_held3 (fun _ => True)
                (first | exact trivial | go_keep)
                (first
                  | (go_at_call 32; (with_reducible refine (few_any (texts_take htd.out hk) ⟨fun c hc => by have := hLs8.out c (List.mem_of_mem_take hc); omega⟩).mono ?_); rintro e w8 ⟨l8, rfl, hown8, hb8⟩; rw [htk.out] at hown8; unfold OwnTexts at hown8; rw [htl] at hown8; have hown8' : w8.ownsRow wr.drew.heap.size 9 1 l8 k ((L.take k).map vs) := hown8; have hb8k : Keep (Below wr.drew.heap.size wr.drew w8) := ⟨hb8⟩; have hB8 : Keep (Below w.heap.size w w8) := ⟨below_trans hBd.out hb8 hBd.out.size⟩; have ht8 : Keep (TextsAt w8 (.slice (some ⟨g, o, none⟩) L.length cap) L) := ⟨texts_below htd.out hb8⟩; clear hown8 hb8; go_simp)
                  | (refine step_append_own (by first | rfl | go_simp) _ _ 23 rfl wr.drew.heap.size 9 i0 (.string ByteArray.empty) 1 16 ty23 hi hz0 hz1 hz2 rfl (by decide) _ _ _ rfl hown8' _ _ _ ((L.drop (k + 1)).map vs) rfl (texts_news ht8.out hlt) (fun x hx => by rw [List.mem_map] at hx; obtain ⟨y, _, rfl⟩ := hx; rfl) (by unfold maxLen; omega) (by omega) hb8k.out.size ?_; intro v9 w9 hown9 hgrow9; have ht9 : Keep (TextsAt w9 v9 (wo L k)) := ⟨own_texts (by rw [hwl]; unfold wo; rw [List.map_append]; exact hown9)⟩; have hb89 : Below wr.drew.heap.size wr.drew w9 := Below.grown hb8k.out hgrow9 hb8k.out.size (fun j hj => (hown8'.lt _ hj).1); have ht9L : Keep (TextsAt w9 (.slice (some ⟨g, o, none⟩) L.length cap) L) := ⟨texts_below htd.out hb89⟩; have hB9 : Keep (Below w.heap.size w w9) := ⟨below_trans hBd.out hb89 hBd.out.size⟩; clear hb89 hown9 hgrow9 hown8'; go_simp)
                  | (go_at_call 29; (with_reducible refine (refCovers_any h40 (by rw [hwl]; omega) ht9.out hwok).mono ?_); rintro e w10 ⟨rfl, hb10⟩; rw [hcw.out]; have ht10L := texts_below ht9L.out hb10; have hB10 : Keep (Below w.heap.size w w10) := ⟨below_trans hB9.out hb10 hB9.out.size⟩; clear hb10; go_simp))
              go_wp2
              exact ⟨⟨k + 1, _, by omega, by go_num, rfl, ⟨by rw [hpk.out, hcw.out]; rfl⟩, hB10, ⟨ht10L⟩⟩, by simp [intOf]; omega⟩
        · have : k = L.length := by omega
          subst this
          have hxr : x = r := by rw [← hx.out, ← hr.out]; rfl
          subst hxr
          cases x
          · go_wp2_with (go_at_call 20; refine (awake_w (tab_below hTk.out hBr.out)).mono ?_; rintro e w7 ⟨rfl, hb7⟩; have hB7 := below_trans hBr.out hb7 hBr.out.size; clear hb7)
            go_ret
            exact ⟨rfl, hB7⟩
          · go_wp2_with (go_at_call 20; refine (awake_w (tab_below hTk.out hBr.out)).mono ?_; rintro e w7 ⟨rfl, hb7⟩; have hB7 := below_trans hBr.out hb7 hBr.out.size; clear hb7)
            go_ret
            exact ⟨rfl, hB7⟩
end Go.Proofs.YtioaaigbpfdjmaaDoor

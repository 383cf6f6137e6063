/-
  The contract of join, at strings.
-/
import Derived.Test.YtdapnjnmhkdnpaaDoorFtBw
import Derived.Test.YtdapnjnmhkdnpaaDoorFmRight
import Derived.Test.YtdapnjnmhkdnpaaDoorFtJoinT
namespace Go.Proofs.YtdapnjnmhkdnpaaDoor.Fb
open Go Go.RowKit Go.Shelf Go.Proofs.YtdapnjnmhkdnpaaDoor.Fm Go.Proofs.YtdapnjnmhkdnpaaDoor.Lx Go.Proofs.YtdapnjnmhkdnpaaDoor.Ft
set_option linter.unusedVariables false
set_option linter.unusedSimpArgs false
attribute [local go_sem] Oper.semAt_some
set_option maxHeartbeats 4000000 in
set_option maxRecDepth 20000 in
theorem joinS_in (H : Nat) (w : World) (hH : w.heap.size = H) (B b : Nat) (v : Value) (l : Bs) (hbd : Bw w B b v l) (hBw : B ≤ H) (gf : Nat) (lb : Array Value) (eg : ∀ args w, (callFunc gf args).run Tryd.prog w = .ok (.enter gf args) w)
    (Rep : World → ByteArray → Array Value → Prop) (xs : List ByteArray) (Res : (Nat → Prop) → World → Prop) (hseq : IterOf Tryd.prog gf lb Rep xs Res) (hform : ∀ W x args, Rep W x args → ∃ s : ByteArray, args = #[.string s])
    (out : ByteArray → Bs) (wf : Nat) (wc : Array Value) (ew : ∀ args w, (callFunc wf args).run Tryd.prog w = .ok (.enter wf args) w) (sep : ByteArray) (Z : World → Prop) (hZ : ∀ W W', Z W → Grow (G0 b v H) W W' → Z W') (hR : ∀ W W' x args, H ≤ W.heap.size → Rep W x args → Grow (G0 b v H) W W' → Rep W' x args) (hz : Z w)
    (hres : ∀ O W, Z W → H ≤ W.heap.size → (∀ k, O k → G0 b v H k) → Res O W) (M : Nat) (hM2 : M ≤ 140737488355328)
    (hW : ∀ (k : Nat) (x : ByteArray) (W : World) (args : Array Value) (u : Value) (m : Bs), xs[k]? = some x → Rep W x args → Z W → H ≤ W.heap.size → Sub (Ob b v) H (Ob b u) → Bw W B b u m → m.length + (out x).length ≤ M → Calls Tryd.prog wf (args ++ wc) W fun e W' => e = .returned (.tuple #[]) ∧ Wr B b u m W W' (out x))
    (hM : l.length + (jn sep.data.toList (xs.map out)).length ≤ M) :
    CallsIn Fence.wide 0 Tryd.prog 27 #[.pointer (some ⟨b, 0, none⟩), .func (.func gf) #[] lb, .string sep, .func (.func wf) #[] wc] w fun e w' => e = .returned (.tuple #[]) ∧ Wr B b v l w w' (jn sep.data.toList (xs.map out)) := by
  have hlt := hbd.lt
  have h4 := four_boxes w (.pointer (some ⟨b, 0, none⟩)) (.string sep) (.func (.func wf) #[] wc) (.bool true) 50 9 66 4
  rw [hH] at h4
  obtain ⟨g0, g1, g2, g3, g4, hz4, hb4⟩ := h4
  have HBD := Lib.hid hbd
  have HZ0 := Lib.hid hz
  have H4 := Lib.hid (⟨g0, g1, g2, g3, g4, hz4, hb4⟩ : _ ∧ _ ∧ _ ∧ _ ∧ _ ∧ _ ∧ _)
  have HLT := Lib.hid (show ∀ q, Ob b v q → q < H from fun q hq => by have := hlt q hq; omega)
  have HW := Lib.hid hW
  have HM := Lib.hid hM
  clear hbd hz g0 g1 g2 g3 g4 hz4 hb4 hlt hW hM
  refine callsIn_of_wp_marks Tryd.func27 rfl trivial ?_ rfl
  simp only [Tryd.ntmps27, List.size_toArray, List.length_cons, List.length_nil, Nat.reduceAdd, Nat.reduceSub, Array.replicate_succ, Array.replicate_zero, List.push_toArray, List.append_toArray, List.nil_append, List.cons_append]
  gi_wp2_with fail
  rw [show H + 1 + 1 + 1 = H + 3 from rfl, show H + 1 + 1 = H + 2 from rfl]
  generalize hX : (((w.alloc (.cells #[.pointer (some ⟨b, 0, none⟩)] 50)).alloc (.cells #[.string sep] 9)).alloc (.cells #[.func (.func wf) #[] wc] 66)).alloc (.cells #[.bool true] 4) = X at *
  obtain ⟨g0, g1, g2, g3, g4, hz4, hb4⟩ := H4.out
  have hzx : H + 4 ≤ X.heap.size ∧ X.heap.size ≤ H + 4 := by omega
  refine range_law (gf := gf) (lb := lb) rfl eg hseq (fun W x args h => by have := hform W x args h; obtain ⟨_, rfl⟩ := this; rfl)
    (JO B b v l H sep (.func (.func wf) #[] wc) out xs Z) (fun _ _ _ => False) (fun q => Ob b v q ∨ q = H + 3) (by rw [hz4]; exact JO.fram hZ) (fun c => ⟨fun h => h.elim, fun h => h.elim⟩)
    ⟨v, fun _ => Iff.rfl, ⟨HLT.out b (.inl rfl), fun q hq => by have := HLT.out q hq; omega⟩, Sub.refl _ _, by
      have := HBD.out.below hb4 (by omega)
      simpa [jn] using this, g0, g1, g2, by simpa using g3, g4, by omega, hZ _ _ HZ0.out (g0_below hb4 (Nat.le_refl _))⟩
    (fun O' W' hb' hs' => hres O' W' (hZ _ _ (hZ _ _ HZ0.out (g0_below hb4 (Nat.le_refl _))) (g0_below hb' (by omega))) (by have := hb'.size; omega) fun q hq => (hs' q hq).elim (fun h => h.elim .inl fun h => .inr (by omega)) fun h => .inr (by omega))
    (fun k x args W2 a1 W3 => ∃ s : ByteArray, args = #[.string s] ∧ W2 = W3 ∧ (∃ y p, W2.heap[b]? = some (.cells #[p, y] 53 (0, 0)) ∧ ∀ q, Ob b y q → q < W2.heap.size) ∧ ∃ u0 u1 u2 u3 u5 u10 u11, a1 = { tmps := #[u0, u1, u2, u3, .pointer (some ⟨H, 0, none⟩), u5, .pointer (some ⟨H + 1, 0, none⟩), .pointer (some ⟨H + 2, 0, none⟩), .pointer (some ⟨H + 3, 0, none⟩), .string s, u10, u11, undef, undef, undef, undef, undef, undef, undef, undef], defers := [] }) ?assign ?body ?done ?stop
  case assign =>
    rintro l2 k x O2 W2 args hj hx hrep
    obtain ⟨s, rfl⟩ := hform _ _ _ hrep
    have HY := Lib.hid (JO.row hj)
    clear hj
    gi_wp2
    exact ⟨Below.refl _ _, s, by first | rfl | trivial, by first | rfl | trivial, HY.out, _, _, _, _, _, _, _, rfl⟩
  case body =>
    rintro l2 k x O2 W3 args _ _ W4 ⟨s, rfl, rfl, hrow, u0, u1, u2, u3, u5, u10, u11, rfl⟩ hj hx hrep hbb hbl hz3 hne hl2 hl3 hol
    obtain ⟨u, ho, ⟨hn0, hn⟩, hj⟩ := hj
    skip
    have hzb := hbb.size
    have hrep4 := hR _ _ _ _ (by omega) (hR _ _ _ _ (by omega) hrep (g0_below (n := W3.heap.size) hbb (by omega))) (g0_below (n := l2) hbl (by omega))
    have hrow := row_same (n := 0) hj.bd hrow fun hb => (hne b (by omega)).trans (hbb.block b hb)
    have HROW := Lib.hid hrow
    have HREP := Lib.hid hrep4
    have HJ := Lib.hid hj
    obtain ⟨hs, hbd, c0, c1, c2, c3, f3, hlt, hzz⟩ := hj
    have HN := Lib.hid hn
    have HO := Lib.hid ho
    have HX := Lib.hid hx
    clear hne hbb hbl hzb hrep hrep4 hrow hn ho hx hs hbd hzz
    have hst := jn_step sep.data.toList out xs k x HX.out
    have hpre := jn_pre sep.data.toList out xs (k + 1)
    by_cases hk0 : k = 0
    · rw [hk0] at c3
      have c3 : W4.cell? ⟨H + 3, 0, none⟩ = some (.bool true) := c3
      rw [if_pos hk0] at hst
      rw [hst] at hpre
      have HST := Lib.hid hst
      have HPRE := Lib.hid hpre
      have e3 := World.cell?_setCell_same' W4 ⟨H + 3, 0, none⟩ (.bool false) (by rw [c3]; rfl)
      have f3' : (W4.setCell ⟨H + 3, 0, none⟩ (.bool false)).frozen? ⟨H + 3, 0, none⟩ = false := by rw [World.frozen?_setCell]; exact f3
      have hg3 : Grow (G0 b v H) W4 (W4.setCell ⟨H + 3, 0, none⟩ (.bool false)) := Grow.setCell W4 _ (.inr (by show H ≤ H + 3; omega))
      have hso : ∀ q, q ≠ H + 3 → (W4.setCell ⟨H + 3, 0, none⟩ (.bool false)).heap[q]? = W4.heap[q]? := fun q hq => Below.heap_setCell _ _ _ _ hq
      have bz : (W4.setCell ⟨H + 3, 0, none⟩ (.bool false)).heap.size = W4.heap.size := by simp [World.setCell]
      have HE := Lib.hid (⟨e3, f3', hg3, hso, bz⟩ : _ ∧ _ ∧ _ ∧ _ ∧ _)
      clear hst hpre e3 f3' hg3 hso bz
      gi_wp2_with fail
      generalize W4.setCell ⟨H + 3, 0, none⟩ (.bool false) = Y at *
      obtain ⟨e3, f3', hg3, hso, bz⟩ := HE.out
      have hbd : Bw Y B b u (l ++ jn sep.data.toList ((xs.take k).map out)) := HJ.out.bd.keep fun q hq => hso q (HN.out q hq).2.2.2
      have hcall := HW.out k x Y _ u _ HX.out (hR _ _ _ _ (by omega) HREP.out hg3) (hZ _ _ HJ.out.z hg3) (by omega) HJ.out.s hbd (by
        rw [hk0, List.length_append, List.take_zero]
        have := HM.out
        have := HPRE.out
        simp only [List.map_nil, jn, List.length_nil]
        omega)
      refine ⟨trivial, rfl, (CallsIn.inRound l2 (callsIn_wide.2 hcall)).mono ?_⟩
      rintro e W5 ⟨rfl, u2, b1, b2, b3⟩
      have hb : Bw W5 B b u2 (l ++ jn sep.data.toList ((xs.take (k + 1)).map out)) := by
        rw [HST.out]
        rw [hk0, List.take_zero] at b1
        simpa [jn] using b1
      have HF := Lib.hid (JO.step hZ HJ.out HO.out hn0 HN.out ⟨hg3.os, hg3.tape, hg3.output, hg3.size, fun q _ hq => hso q fun h => hq ((HO.out q).2 (.inr h))⟩ (Sub.refl _ _) e3 f3' hb b2 b3)
      clear hcall hb b1 b2 b3 e3 f3' hg3 hso bz hbd
      gi_wp2
      exact HF.out
    · rw [decide_eq_false hk0] at c3
      rw [if_neg hk0] at hst
      have HST := Lib.hid hst
      rw [hst] at hpre
      have hlen : l.length + ((jn sep.data.toList ((xs.take k).map out)).length + (sep.size + (out x).length)) ≤ M := by
        rw [List.length_append, List.length_append] at hpre
        have e : sep.data.toList.length = sep.size := rfl
        have := HM.out
        omega
      have hws := Lib.hid (wrS HJ.out.bd sep (by rw [List.length_append]; omega) (by omega))
      have HLEN := Lib.hid hlen
      clear hst hpre hlen
      gi_wp2_with fail
      refine ⟨trivial, rfl, (CallsIn.inRound l2 (callsIn_wide.2 hws.out)).mono ?_⟩
      rintro e W5 ⟨rfl, u1, b1, b2, b3⟩
      clear hws
      have hn1 : ∀ q, Ob b u1 q → q ≠ H ∧ q ≠ H + 1 ∧ q ≠ H + 2 ∧ q ≠ H + 3 := fun q hq => (b3 q hq).elim (fun h => by have := HN.out q h; have := HROW.out q h; omega) fun h => by omega
      have hn0' : ∀ q, Ob b u q → q ≠ H ∧ q ≠ H + 1 ∧ q ≠ H + 2 ∧ q ≠ H + 3 := fun q h => by have := HN.out q h; have := HROW.out q h; omega
      have HN0 := Lib.hid hn0'
      have HN1 := Lib.hid hn1
      have bz5 := b2.size
      have c0 := (b2.cell (p := ⟨H, 0, none⟩) (by show H < _; omega) fun h => (hn0' _ h).1 rfl).trans c0
      have c1 := (b2.cell (p := ⟨H + 1, 0, none⟩) (by show H + 1 < _; omega) fun h => (hn0' _ h).2.1 rfl).trans c1
      have c2 := (b2.cell (p := ⟨H + 2, 0, none⟩) (by show H + 2 < _; omega) fun h => (hn0' _ h).2.2.1 rfl).trans c2
      have c3 := (b2.cell (p := ⟨H + 3, 0, none⟩) (by show H + 3 < _; omega) fun h => (hn0' _ h).2.2.2 rfl).trans c3
      have f3 := (b2.frozen (p := ⟨H + 3, 0, none⟩) (by show H + 3 < _; omega) fun h => (hn0' _ h).2.2.2 rfl).trans f3
      have hlt5 : H + 3 < W5.heap.size := by omega
      have e3 := World.cell?_setCell_same' W5 ⟨H + 3, 0, none⟩ (.bool false) (by rw [c3]; rfl)
      have f3' : (W5.setCell ⟨H + 3, 0, none⟩ (.bool false)).frozen? ⟨H + 3, 0, none⟩ = false := by rw [World.frozen?_setCell]; exact f3
      have hg3 : Grow (fun q => q = H + 3) W5 (W5.setCell ⟨H + 3, 0, none⟩ (.bool false)) := Grow.setCell W5 _ rfl
      have hso : ∀ q, q ≠ H + 3 → (W5.setCell ⟨H + 3, 0, none⟩ (.bool false)).heap[q]? = W5.heap[q]? := fun q hq => Below.heap_setCell _ _ _ _ hq
      have bz : (W5.setCell ⟨H + 3, 0, none⟩ (.bool false)).heap.size = W5.heap.size := by simp [World.setCell]
      have HE := Lib.hid (⟨e3, f3', hg3, hso, bz, b1, b2, b3⟩ : _ ∧ _ ∧ _ ∧ _ ∧ _ ∧ _ ∧ _ ∧ _)
      clear e3 f3' hg3 hso bz b1 b2 b3 hn1 hn0'
      gi_wp2_with fail
      generalize W5.setCell ⟨H + 3, 0, none⟩ (.bool false) = Y at *
      obtain ⟨e3, f3', hg3, hso, bz, b1, b2, b3⟩ := HE.out
      have hbd : Bw Y B b u1 (l ++ jn sep.data.toList ((xs.take k).map out) ++ sep.data.toList) := b1.keep fun q hq => hso q (HN1.out q hq).2.2.2
      have hgO : Grow O2 W4 Y := (b2.mono fun q _ h => (HO.out q).2 (.inl h)).trans hg3 fun q hq => .inl ((HO.out q).2 (.inr hq))
      have hg0 : Grow (G0 b v H) W4 Y := hgO.mono fun q _ hq => ((HO.out q).1 hq).elim (fun h => HJ.out.s q h) fun h => .inr (by omega)
      have hcall := HW.out k x Y _ u1 _ HX.out (hR _ _ _ _ (by omega) HREP.out hg0) (hZ _ _ HJ.out.z hg0) (by omega) (HJ.out.s.trans b3 (by omega)) hbd (by
        rw [List.length_append, List.length_append]
        have := HLEN.out
        have e : sep.data.toList.length = sep.size := rfl
        omega)
      refine ⟨trivial, rfl, (CallsIn.inRound l2 (callsIn_wide.2 hcall)).mono ?_⟩
      rintro e W6 ⟨rfl, u2, b4, b5, b6⟩
      have hb : Bw W6 B b u2 (l ++ jn sep.data.toList ((xs.take (k + 1)).map out)) := by
        rw [HST.out]
        simpa using b4
      have HF := Lib.hid (JO.step hZ HJ.out HO.out hn0 HN.out hgO b3 e3 f3' hb b5 b6)
      clear hcall hb b1 b2 b3 b4 b5 b6 e3 f3' hg3 hso bz hbd hgO hg0
      gi_wp2
      exact HF.out
  case stop => exact fun c O W h => h.elim
  case done =>
    rintro O2 W3 ⟨u, ho, ⟨hn0, hn⟩, hj⟩ hs2 nD hg2 hK
    have hb : Bw W3 B b u (l ++ jn sep.data.toList (xs.map out)) := by
      have := hj.bd
      rwa [List.take_length] at this
    have hs := hj.s
    have hnD : ¬ Ob b u X.heap.size := fun h => nD ((ho _).2 (.inl h))
    have hlt3 := hj.lt
    have hF : Wr B b v l w (W3.putObj X.heap.size (.deferred none)) (jn sep.data.toList (xs.map out)) := by
      refine ⟨u, hb.keep fun q hq => World.putObj_heap_other fun e => hnD (e ▸ hq), ?_, by rw [hH]; exact hs⟩
      have hg3 : Grow (fun q => Ob b v q ∨ q = H + 3) X (W3.putObj X.heap.size (.deferred none)) := hg2.trans (Grow.putObj (O := fun q => q = X.heap.size) W3 _ rfl) fun q hq => .inr (by omega)
      refine (Grow.of_below (O := Ob b v) (hb4.mono (by omega))).trans hg3 fun q hq => hq.elim .inl fun h => .inr (by omega)
    have HF := Lib.hid hF
    have HK := Lib.hid hK
    clear hF hb hs hnD hj ho hn hs2 nD hg2
    gi_wp2
    refine ⟨by simp, .inl ⟨_, _, rfl, run_takeDeferred HK.out, ?_⟩⟩
    exact ⟨.tuple #[], by simp [results, Tryd.results27, go_sem], rfl, HF.out⟩
end Go.Proofs.YtdapnjnmhkdnpaaDoor.Fb

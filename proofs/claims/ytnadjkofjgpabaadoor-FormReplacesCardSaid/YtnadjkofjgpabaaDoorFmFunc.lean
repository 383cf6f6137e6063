/-
  The contract of Functions, given that of inOrder.
-/
import Derived.Test.YtnadjkofjgpabaaDoorFmPred
namespace Go.Proofs.YtnadjkofjgpabaaDoor.Fm
open Go Go.RowKit Go.Shelf
set_option linter.unusedVariables false
set_option linter.unusedSimpArgs false
attribute [local go_sem] Oper.semAt_some
def funcOf (x : Int × Tm) : Option Sy := if x.2.v = true then none else some (x.2.n, (x.2.args.length : Int))
def funcsL (f : Fo) : List Sy := (termsL f).filterMap funcOf
set_option maxHeartbeats 1000000 in
set_option maxRecDepth 20000 in
theorem functions_in (HIO : InOrd) (v0 v1 v2 v3 : Value) (f : Fo) (dn : Nat) (w : World) (hf : FoV dn w v0 v1 v2 v3 f) (hd : dn ≤ w.heap.size) (hF : Fine f) (hsz : (termsL f).length ≤ 1099511627776) (hA : Apart (srt (funcsL f))) :
    CallsIn Fence.wide 0 Tryd.prog 23 #[.agg #[v0, v1, v2, v3]] w (SymP (funcsL f) w) := by
  have hb0 : Below w.heap.size w ((w.alloc (.cells #[v0, v1, v2, v3] 25)).alloc (.cells #[.slice none 0 0] 44)) := ((Below.refl _ w).alloc (Nat.le_refl _) _).alloc (by simp) _
  have hw := Lib.hid (terms_in v0 v1 v2 v3 f dn _ (hf.below hb0 hd) (by simp; omega))
  obtain ⟨rfl, _, rfl, _, hA0, hS⟩ := hf
  obtain ⟨⟨a1', k1, rfl⟩, _⟩ := hA0.form
  obtain ⟨⟨a2, k2, rfl⟩, _⟩ := hS.form
  refine callsIn_of_wp_marks Tryd.func23 rfl trivial ?_ rfl
  simp only [Tryd.ntmps23, List.size_toArray, List.length_cons, List.length_nil, Nat.reduceAdd, Nat.reduceSub, Array.replicate_succ, Array.replicate_zero, List.push_toArray, List.append_toArray, List.nil_append, List.cons_append]
  gi_wp2_with fail
  refine ⟨trivial, rfl, hw.out.mono ?_⟩
  clear hw
  rintro e W1 ⟨rfl, hb1, hbox, hz1⟩
  rw [World.size_alloc, World.size_alloc] at hb1 hbox hz1
  rw [World.size_alloc, World.size_alloc]
  have hz : W1.heap.size ≤ w.heap.size + 3 ∧ w.heap.size + 3 ≤ W1.heap.size := by omega
  clear hz1
  have hbw : Below w.heap.size w W1 := hb0.trans (hb1.mono (by omega))
  have cC : W1.cell? ⟨w.heap.size + 1, 0, none⟩ = some (.slice none 0 0) := by rw [hb1.cell (p := ⟨w.heap.size + 1, 0, none⟩) (by simp)]; rw [World.cell?_alloc_at _ _ _ _ (by simp)]; rfl
  have fC : W1.frozen? ⟨w.heap.size + 1, 0, none⟩ = false := by rw [hb1.frozen (p := ⟨w.heap.size + 1, 0, none⟩) (by simp)]; rw [World.frozen?_alloc_at _ _ _ _ (by simp)]
  have hC := Lib.hid cC
  clear cC
  gi_wp2_with fail
  refine range_law (gf := 73) (lb := #[.pointer (some ⟨w.heap.size + 2, 0, none⟩)]) rfl (enters_of Tryd.func73 (by kernel_rfl) rfl) (terms_iter f (w.heap.size + 2) dn hF.p hF.t)
    (by rintro W x args ⟨_, _, _, rfl, _⟩; rfl) (SJ (termsL f) funcOf (w.heap.size + 1)) (fun _ _ _ => False) (fun b => b = w.heap.size + 1) SJ.fram (fun c => ⟨fun h => h.elim, fun h => h.elim⟩)
    ⟨⟨_, fun b => by simp [Value.ownBlock], hC.out, by simp [World.ownsRow_nil]⟩, fC, by omega⟩
    (fun O' W' hb' hs' => ⟨hbox.below hb' (by omega) (by omega), fun h => (hs' _ h).elim (fun h => by omega) fun h => by omega, fun b hb => (hs' b hb).elim (fun h => by omega) fun h => by omega⟩)
    (fun k x args W2 a1 W3 => ∃ v0 v1 v2, TmV dn W2 v0 v1 v2 x.2 ∧ W3 = W2.alloc (.cells #[v0, v1, v2] 50) ∧ ∃ u0 u1 u2 u4 u6 u7 u8 u9, a1 = { tmps := #[u0, u1, u2, .pointer (some ⟨w.heap.size + 1, 0, none⟩), u4, .pointer (some ⟨W2.heap.size, 0, none⟩), u6, u7, u8, u9, undef, undef, undef, undef, undef, undef, undef, undef, undef, undef, undef, undef, undef, undef], defers := [] }) ?assign ?body ?done ?stop
  case assign =>
    rintro l2 k x O2 W2 args hj hx ⟨v0, v1, v2, rfl, hv⟩
    have HV := Lib.hid hv
    obtain ⟨rfl, rfl, _, hA⟩ := hv
    obtain ⟨⟨a1, k1, rfl⟩, _⟩ := hA.form
    clear hj hbox
    gi_wp2
    exact ⟨(Below.refl _ _).alloc (Nat.le_refl _) _, _, _, _, HV.out, rfl, _, _, _, _, _, _, _, _, rfl⟩
  case body =>
    rintro l2 k x O2 W3 args _ _ W4 ⟨v0, v1, v2, hv, rfl, u0, u1, u2, u4, u6, u7, u8, u9, rfl⟩ hj hx hrep hbb hbl hz3 hne hl2 hl3 hol
    rw [World.size_alloc] at hz3
    have hcc : ∀ q, W4.cell? ⟨W3.heap.size, q, none⟩ = (#[v0, v1, v2] : Array Value)[q]? := fun q => by
      rw [World.cell?_of_block (w := W3.alloc (.cells #[v0, v1, v2] 50)) (hne _ (by show W3.heap.size ≠ l2; omega)), World.cell?_alloc_at _ _ _ _ rfl]
    obtain ⟨hk, hxe⟩ := List.getElem?_eq_some_iff.1 hx
    have hstep : ((termsL f).take (k + 1)).filterMap funcOf = ((termsL f).take k).filterMap funcOf ++ (funcOf x).toList := by
      rw [List.take_succ_eq_append_getElem hk, List.filterMap_append, hxe]
      cases h : funcOf x <;> simp [h]
    have hpo : funcOf x = if x.2.v = true then none else some (x.2.n, (x.2.args.length : Int)) := rfl
    obtain ⟨rfl, rfl, _, hA⟩ := hv
    obtain ⟨⟨a1, k1, rfl⟩, hal⟩ := hA.form
    have d0 := hcc 0
    have d1 := hcc 1
    have d2 := hcc 2
    simp only [List.getElem?_toArray, List.getElem?_cons_zero, List.getElem?_cons_succ] at d0 d1 d2
    have hlen : (((termsL f).take k).filterMap funcOf).length ≤ 1099511627776 := Nat.le_trans (List.length_filterMap_le _ _) (by rw [List.length_take]; omega)
    have HJ := Lib.hid hj
    obtain ⟨⟨v, ho, hc, hown⟩, hf, hlt⟩ := hj
    have hlt4 : w.heap.size + 1 < W4.heap.size := hlt
    obtain ⟨d, hdd⟩ : ∃ d, ((termsL f).take k).filterMap funcOf = d := ⟨_, rfl⟩
    rw [hdd] at hown hlen hstep
    clear hcc hne hbl hbb hrep hbox hbw hS hA0 hb1 hx hxe hC hz hb0
    have hz4 : W4.heap.size ≤ W3.heap.size + 1 ∧ W3.heap.size + 1 ≤ W4.heap.size := by omega
    clear hz3
    generalize x.2.v = o at *
    generalize x.2.n = nm at *
    generalize x.2.args.length = la at *
    by_cases h1 : o = false
    · subst h1
      rw [if_neg (by decide)] at hpo
      rw [hpo] at hstep
      have HD := Lib.hid hstep
      have HO := Lib.hid ho
      have HW := Lib.hid hown
      obtain ⟨i0, hi, hz0, hz1, hz2⟩ := info_parts infoS
      clear hstep ho hpo hdd hown
      gi_wp2_with ((gi_at_builtin; refine wpListIn_append_own_at _ rfl _ _ 44 rfl (w.heap.size + 1 + 1) 55 i0 (.agg #[.string ByteArray.empty, .int .i64 0]) 2 24 Tryd.underlying44 hi hz0 hz1 hz2 rfl (by decide) v d.length (d.flatMap encSy) rfl (own_below HW.out ((Below.refl _ _).alloc (Nat.le_refl _) _)) ⟨W4.heap.size, 0, none⟩ 1 1 [.string nm, .int .i64 (la : Int)] rfl rfl (new_two _ _ _ _) (by simp [Value.oneCell']) (by unfold maxLen; omega) (by omega) (by simp; omega) ?_))
      intro v' w' hown' hgrow hnil hat
      obtain ⟨a9, k9, rfl⟩ : ∃ a c, v' = .slice a (d.length + 1) c := by
        rcases own_cells hown' with ⟨_, h0, _⟩ | ⟨g, cap, h0, _⟩
        · omega
        · exact ⟨_, _, h0⟩
      obtain ⟨O', h1', h2', h3'⟩ := SJ.step HD.out HO.out hc hf hlt HW.out hown' hgrow hat
      have H1 := Lib.hid h1'
      have H2 := Lib.hid h2'
      have H3 := Lib.hid h3'
      have hfr : w'.cell? ⟨w.heap.size + 1, 0, none⟩ = some v ∧ w'.frozen? ⟨w.heap.size + 1, 0, none⟩ = false := by
        have hb : w'.heap[w.heap.size + 1]? = W4.heap[w.heap.size + 1]? := (hgrow.block _ (by rw [World.size_alloc]; omega) fun e => by have := (HW.out.lt _ e.symm).1; omega).trans (((Below.refl _ _).alloc (Nat.le_refl _) _).block _ hlt4)
        exact ⟨(World.cell?_of_block hb).trans hc, (World.frozen?_of_block hb).trans hf⟩
      obtain ⟨q1, q2⟩ := hfr
      clear h1' h2' h3' hown' hgrow hnil hat hc hf
      gi_wp2
      exact ⟨O', H1.out, H2.out, H3.out⟩
    · obtain rfl : o = true := by simpa using h1
      rw [if_pos rfl] at hpo
      rw [hpo] at hstep
      have HD := Lib.hid hstep
      have HDD := Lib.hid hdd
      clear hstep hpo hdd h1
      gi_wp2
      obtain ⟨⟨v', ho', hc', hr'⟩, hf', hl'⟩ := HJ.out
      exact ⟨O2, Sub.refl _ _, Grow.refl _ _, ⟨v', ho', hc', by rw [HD.out]; rw [HDD.out] at hr'; simpa using hr'⟩, hf', hl'⟩
  case stop => exact fun c O' W h => h.elim
  case done =>
    rintro O2 W2 ⟨⟨v, ho, hc, hown⟩, hf, hlt⟩ hs2 nD hg2 hK
    rw [List.take_length] at hown
    have hlen : (funcsL f).length ≤ 1099511627776 := Nat.le_trans (List.length_filterMap_le _ _) hsz
    have HI := Lib.hid (HIO (w.heap.size + 1 + 1) v (funcsL f) W2 hown hlen hA)
    have hlD : W1.heap.size < W2.heap.size := lt_of_heap hK
    have hbg : ∀ g, v.ownBlock = some g → w.heap.size ≤ g ∧ g ≠ W1.heap.size := fun g h => ⟨by have := (hown.lt g h).1; omega, fun e => nD ((ho _).2 (.inr (e ▸ h)))⟩
    have HB := Lib.hid hbg
    have HG := Lib.hid ((Grow.of_below (O := fun b => b = w.heap.size + 1) hbw).trans hg2 (Sub.refl _ _))
    have HK := Lib.hid hK
    clear hbox hb1 hbw hA0 hS hb0 ho hs2 hg2 hown hlen hsz hF hK nD hbg
    gi_wp2_with fail
    refine ⟨trivial, rfl, (callsIn_wide.2 HI.out).mono ?_⟩
    rintro e W3 ⟨a, cap, rfl, hor, hg3⟩
    have HK3 := Lib.hid ((hg3.block _ hlD fun h => (HB.out _ h).2 rfl).trans HK.out)
    have HOR := Lib.hid hor
    have hG := Lib.hid ((HG.out.trans hg3 (fun b hb => .inr (HB.out b hb).1)).taken (D := W1.heap.size) (by omega) (.deferred none))
    clear hor hg3
    gi_wp2
    refine ⟨by simp, .inl ⟨_, _, rfl, run_takeDeferred HK3.out, ?_⟩⟩
    refine ⟨_, results_tmp rfl _ _ _, a, cap, rfl, ?_, hG.out.below (Nat.le_refl _) fun b hb => by omega⟩
    rcases HOR.out with h | ⟨g, h1, h2, h3⟩
    · exact .inl h
    · exact .inr ⟨g, h1, (HB.out g h2).1, h3.of_block (World.putObj_heap_other (HB.out g h2).2)⟩
end Go.Proofs.YtnadjkofjgpabaaDoor.Fm

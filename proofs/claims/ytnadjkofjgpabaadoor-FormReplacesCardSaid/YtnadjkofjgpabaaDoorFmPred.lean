/-
  The contract of Predicates, given that of inOrder.
-/
import Derived.Test.YtnadjkofjgpabaaDoorFmComp
import Derived.Test.YtnadjkofjgpabaaDoorFmRight
import Derived.Test.YtnadjkofjgpabaaDoorFmAppT
import Derived.Maps.OwnIn
namespace Go.Proofs.YtnadjkofjgpabaaDoor.Fm
open Go Go.RowKit Go.Shelf
set_option linter.unusedVariables false
set_option linter.unusedSimpArgs false
attribute [local go_sem] Oper.semAt_some
def srt (d : List Sy) : List Sy := d.mergeSort fun x y => !(Go.Proofs.ltOf cmpSy) y x
def InOrdP (v : Value) (d : List Sy) (w : World) (e : Ending) (w' : World) : Prop := ∃ a cap, e = .returned (.slice a (srt d).length cap) ∧ (d = [] ∨ ∃ g, a = some ⟨g, 0, none⟩ ∧ v.ownBlock = some g ∧ RowS w' g 0 (srt d)) ∧ Grow (fun b => v.ownBlock = some b) w w'
def InOrd : Prop := ∀ (B : Nat) (v : Value) (d : List Sy) (w : World), w.ownsRow B 55 2 v d.length (d.flatMap encSy) → d.length ≤ 1099511627776 → Apart (srt d) → Calls Tryd.prog 49 #[v] w (InOrdP v d w)
def SymP (d : List Sy) (w : World) (e : Ending) (w' : World) : Prop := ∃ a cap, e = .returned (.slice a (srt d).length cap) ∧ (d = [] ∨ ∃ g, a = some ⟨g, 0, none⟩ ∧ w.heap.size ≤ g ∧ RowS w' g 0 (srt d)) ∧ Below w.heap.size w w'
def predOf (x : Int × Fo) : Option Sy := if x.2.op = 1 then some (x.2.n, (x.2.args.length : Int)) else none
def predsL (f : Fo) : List Sy := (f.all 1).filterMap predOf
/-- The list that the range's body appends to. -/
structure SJ {α : Type} (xs : List α) (F : α → Option Sy) (C : Nat) (k : Nat) (O : Nat → Prop) (W : World) : Prop where
  v : ∃ v, (∀ b, O b ↔ b = C ∨ v.ownBlock = some b) ∧ W.cell? ⟨C, 0, none⟩ = some v ∧ W.ownsRow (C + 1) 55 2 v ((xs.take k).filterMap F).length (((xs.take k).filterMap F).flatMap encSy)
  f : W.frozen? ⟨C, 0, none⟩ = false
  lt : C < W.heap.size
theorem SJ.fram {α : Type} {xs : List α} {F : α → Option Sy} {C n : Nat} : Fr n (SJ xs F C) where
  lt h b hb := by
    obtain ⟨v, ho, _, hr⟩ := h.v
    rcases (ho b).1 hb with rfl | hb
    · exact h.lt
    · exact (hr.lt b hb).2
  keep h hb ho := by
    obtain ⟨v, hO, hc, hr⟩ := h.v
    have e := ho C ((hO C).2 (.inl rfl))
    refine ⟨⟨v, hO, (World.cell?_of_block e).trans hc, hr.1, ?_⟩, (World.frozen?_of_block e).trans h.f, Nat.lt_of_lt_of_le h.lt hb.size⟩
    rcases hr.2 with h0 | ⟨g, cap, cur, rfl, hb0, hg, h3⟩
    · exact .inl h0
    · exact .inr ⟨g, cap, cur, rfl, hb0, (ho g ((hO g).2 (.inr rfl))).trans hg, h3⟩
theorem infoS : (Tryd.prog.info? 55).map (fun i => (i.zero, i.size, i.bytes)) = some (some (.agg #[.string ByteArray.empty, .int .i64 0]), 2, 24) := by kernel_rfl
theorem new_two (w : World) (x y : Value) (t : TypeId) : ∀ j u, [x, y][j]? = some u → (w.alloc (.cells #[x, y] t)).cell? ((⟨w.heap.size, 0, none⟩ : Addr).add j) = some u := by
  intro j u h
  have e : (⟨w.heap.size, 0, none⟩ : Addr).add j = ⟨w.heap.size, j, none⟩ := by
    unfold Addr.add
    by_cases h0 : j = 0
    · rw [if_pos h0, h0]
    · rw [if_neg h0, Nat.zero_add]
  rw [e, World.cell?_alloc_at _ _ _ _ rfl, ← h]
  simp
theorem own_heap {w w' : World} {base n size : Nat} {e : TypeId} {v : Value} {xs : List Value} (h : w.ownsRow base e size v n xs) (hh : ∀ g, v.ownBlock = some g → w'.heap[g]? = w.heap[g]?) : w'.ownsRow base e size v n xs := by
  refine ⟨h.1, ?_⟩
  rcases h.2 with h0 | ⟨g, cap, cur, rfl, hb0, hg, h3⟩
  · exact .inl h0
  · exact .inr ⟨g, cap, cur, rfl, hb0, (hh g rfl).trans hg, h3⟩
theorem grow_of_grown {O : Nat → Prop} {W w' : World} {o : Obj} {row : Option Nat} (h : (W.alloc o).grownBy w' row) (hr : ∀ g, row = some g → O g) : Grow O W w' := by
  have hb : Below W.heap.size W (W.alloc o) := (Below.refl _ _).alloc (Nat.le_refl _) _
  refine ⟨h.os.trans hb.os, h.tape.trans hb.tape, h.output.trans hb.output, Nat.le_trans hb.size h.size, fun i hi hn => (h.block i (Nat.lt_of_lt_of_le hi hb.size) fun e => hn (hr i e.symm)).trans (hb.block i hi)⟩
/-- One symbol more. -/
theorem SJ.step {α : Type} {xs : List α} {F : α → Option Sy} {C k : Nat} {O : Nat → Prop} {W w' : World} {v v' : Value} {d : List Sy} {s : Sy} {o : Obj} (hd : (xs.take (k + 1)).filterMap F = d ++ [s]) (hO : ∀ b, O b ↔ b = C ∨ v.ownBlock = some b)
    (hc : W.cell? ⟨C, 0, none⟩ = some v) (hf : W.frozen? ⟨C, 0, none⟩ = false) (hlt : C < W.heap.size) (hown : W.ownsRow (C + 1) 55 2 v d.length (d.flatMap encSy))
    (hown' : w'.ownsRow (C + 1) 55 2 v' (d.length + 1) (d.flatMap encSy ++ encSy s)) (hg : (W.alloc o).grownBy w' v.ownBlock) (hat : v'.ownBlock = v.ownBlock ∨ v'.ownBlock = some (W.heap.size + 1)) :
    ∃ O', Sub O W.heap.size O' ∧ Grow O W (w'.setCell ⟨C, 0, none⟩ v') ∧ SJ xs F C (k + 1) O' (w'.setCell ⟨C, 0, none⟩ v') := by
  have hG : Grow O W w' := grow_of_grown hg fun g h => (hO g).2 (.inr h)
  have hC : ∀ g, v'.ownBlock = some g → g ≠ C := fun g h e => by have := (hown'.lt g h).1; omega
  have hCv : ∀ g, v.ownBlock = some g → g ≠ C := fun g h e => by have := (hown.lt g h).1; omega
  have hblk : w'.heap[C]? = W.heap[C]? := (hg.block C (by rw [World.size_alloc]; omega) fun e => hCv C e.symm rfl).trans (((Below.refl _ _).alloc (Nat.le_refl _) o).block C hlt)
  refine ⟨fun b => b = C ∨ v'.ownBlock = some b, ?_, ?_, ⟨v', fun _ => Iff.rfl, ?_, ?_⟩, ?_, ?_⟩
  · rintro b (rfl | h)
    · exact .inl ((hO _).2 (.inl rfl))
    · rcases hat with e | e
      · exact .inl ((hO _).2 (.inr (e ▸ h)))
      · have h2 := e.symm.trans h
        injection h2 with h2
        exact .inr (by omega)
  · exact hG.trans (Grow.setCell (O := O) w' (p := ⟨C, 0, none⟩) v' ((hO _).2 (.inl rfl))) (Sub.refl _ _)
  · exact World.cell?_setCell_same' w' ⟨C, 0, none⟩ v' (by rw [World.cell?_of_block hblk, hc]; rfl)
  · rw [hd]
    rw [List.length_append, List.flatMap_append]
    have e : [s].flatMap encSy = encSy s := by simp
    rw [e]
    exact own_heap hown' fun g h => Below.heap_setCell w' ⟨C, 0, none⟩ v' g (hC g h)
  · rw [World.frozen?_setCell, World.frozen?_of_block hblk]; exact hf
  · have := hG.size
    simp
    omega
theorem RowS.of_block {w w' : World} {g o : Nat} {d : List Sy} (h : RowS w g o d) (hb : w'.heap[g]? = w.heap[g]?) : RowS w' g o d := by
  have hl : g < w'.heap.size := by
    have h1 : w.heap[g]? ≠ none := by rw [Array.getElem?_eq_getElem h.1]; simp
    rw [← hb] at h1
    exact Nat.lt_of_not_le fun h2 => h1 (Array.getElem?_eq_none h2)
  exact ⟨hl, fun j hj => ⟨(World.cell?_of_block hb).trans (h.2 j hj).1, (World.cell?_of_block hb).trans (h.2 j hj).2⟩⟩
set_option maxHeartbeats 1000000 in
set_option maxRecDepth 20000 in
theorem predicates_in (HIO : InOrd) (v0 v1 v2 v3 : Value) (f : Fo) (dn : Nat) (w : World) (hf : FoV dn w v0 v1 v2 v3 f) (hd : dn ≤ w.heap.size) (hF : Fine f) (hsz : (f.all 1).length ≤ 1099511627776) (hA : Apart (srt (predsL f))) :
    CallsIn Fence.wide 0 Tryd.prog 22 #[.agg #[v0, v1, v2, v3]] w (SymP (predsL f) w) := by
  have hb0 : Below w.heap.size w ((w.alloc (.cells #[v0, v1, v2, v3] 25)).alloc (.cells #[.slice none 0 0] 44)) := ((Below.refl _ w).alloc (Nat.le_refl _) _).alloc (by simp) _
  have hw := Lib.hid (parts_in v0 v1 v2 v3 f dn _ (hf.below hb0 hd) (by simp; omega))
  obtain ⟨rfl, _, rfl, _, hA0, hS⟩ := hf
  obtain ⟨⟨a1', k1, rfl⟩, _⟩ := hA0.form
  obtain ⟨⟨a2, k2, rfl⟩, _⟩ := hS.form
  refine callsIn_of_wp_marks Tryd.func22 rfl trivial ?_ rfl
  simp only [Tryd.ntmps22, List.size_toArray, List.length_cons, List.length_nil, Nat.reduceAdd, Nat.reduceSub, Array.replicate_succ, Array.replicate_zero, List.push_toArray, List.append_toArray, List.nil_append, List.cons_append]
  gi_wp2_with fail
  refine ⟨trivial, rfl, hw.out.mono ?_⟩
  clear hw
  rintro e W1 ⟨rfl, hb1, hbox, hz1⟩
  rw [World.size_alloc, World.size_alloc] at hb1 hbox hz1
  rw [World.size_alloc, World.size_alloc]
  have hz : W1.heap.size ≤ w.heap.size + 3 ∧ w.heap.size + 3 ≤ W1.heap.size := by omega
  clear hz1
  have hbw : Below w.heap.size w W1 := hb0.trans (hb1.mono (by omega))
  have cC : W1.cell? ⟨w.heap.size + 1, 0, none⟩ = some (.slice none 0 0) := by rw [hb1.cell (p := ⟨w.heap.size + 1, 0, none⟩) (by simp)]; rw [World.cell?_alloc_at _ _ _ _ (by simp)]; rfl
  have fC : W1.frozen? ⟨w.heap.size + 1, 0, none⟩ = false := by rw [hb1.frozen (p := ⟨w.heap.size + 1, 0, none⟩) (by simp)]; rw [World.frozen?_alloc_at _ _ _ _ (by simp)]
  have hC := Lib.hid cC
  clear cC
  gi_wp2_with fail
  refine range_law (gf := 66) (lb := #[.pointer (some ⟨w.heap.size + 2, 0, none⟩)]) rfl (enters_of Tryd.func66 (by kernel_rfl) rfl) (parts_iter f (w.heap.size + 2) dn hF.p)
    (by rintro W x args ⟨_, _, _, _, rfl, _⟩; rfl) (SJ (f.all 1) predOf (w.heap.size + 1)) (fun _ _ _ => False) (fun b => b = w.heap.size + 1) SJ.fram (fun c => ⟨fun h => h.elim, fun h => h.elim⟩)
    ⟨⟨_, fun b => by simp [Value.ownBlock], hC.out, by simp [World.ownsRow_nil]⟩, fC, by omega⟩
    (fun O' W' hb' hs' => ⟨hbox.below hb' (by omega) (by omega), fun b hb => (hs' b hb).elim (fun h => by omega) fun h => by omega⟩)
    (fun k x args W2 a1 W3 => ∃ v0 v1 v2 v3, FoV dn W2 v0 v1 v2 v3 x.2 ∧ W3 = W2.alloc (.cells #[v0, v1, v2, v3] 25) ∧ ∃ u0 u1 u2 u4 u6 u7 u8 u9, a1 = { tmps := #[u0, u1, u2, .pointer (some ⟨w.heap.size + 1, 0, none⟩), u4, .pointer (some ⟨W2.heap.size, 0, none⟩), u6, u7, u8, u9, undef, undef, undef, undef, undef, undef, undef, undef, undef, undef, undef, undef, undef, undef], defers := [] }) ?assign ?body ?done ?stop
  case assign =>
    rintro l2 k x O2 W2 args hj hx ⟨v0, v1, v2, v3, rfl, hv⟩
    have HV := Lib.hid hv
    obtain ⟨rfl, hop, rfl, _, hA, hS⟩ := hv
    obtain ⟨⟨a1, k1, rfl⟩, _⟩ := hA.form
    obtain ⟨⟨a2, k2, rfl⟩, _⟩ := hS.form
    clear hj hbox
    gi_wp2
    exact ⟨(Below.refl _ _).alloc (Nat.le_refl _) _, _, _, _, _, HV.out, rfl, _, _, _, _, _, _, _, _, rfl⟩
  case body =>
    rintro l2 k x O2 W3 args _ _ W4 ⟨v0, v1, v2, v3, hv, rfl, u0, u1, u2, u4, u6, u7, u8, u9, rfl⟩ hj hx hrep hbb hbl hz3 hne hl2 hl3 hol
    rw [World.size_alloc] at hz3
    have hcc : ∀ q, W4.cell? ⟨W3.heap.size, q, none⟩ = (#[v0, v1, v2, v3] : Array Value)[q]? := fun q => by
      rw [World.cell?_of_block (w := W3.alloc (.cells #[v0, v1, v2, v3] 25)) (hne _ (by show W3.heap.size ≠ l2; omega)), World.cell?_alloc_at _ _ _ _ rfl]
    obtain ⟨hk, hxe⟩ := List.getElem?_eq_some_iff.1 hx
    have hstep : ((f.all 1).take (k + 1)).filterMap predOf = ((f.all 1).take k).filterMap predOf ++ (predOf x).toList := by
      rw [List.take_succ_eq_append_getElem hk, List.filterMap_append, hxe]
      cases h : predOf x <;> simp [h]
    have hpo : predOf x = if x.2.op = 1 then some (x.2.n, (x.2.args.length : Int)) else none := rfl
    obtain ⟨rfl, hop, rfl, _, hA, hS⟩ := hv
    obtain ⟨⟨a1, k1, rfl⟩, hal⟩ := hA.form
    obtain ⟨⟨a2, k2, rfl⟩, _⟩ := hS.form
    have d0 := hcc 0
    have d1 := hcc 1
    have d2 := hcc 2
    simp only [List.getElem?_toArray, List.getElem?_cons_zero, List.getElem?_cons_succ] at d0 d1 d2
    have hlen : (((f.all 1).take k).filterMap predOf).length ≤ 1099511627776 := Nat.le_trans (List.length_filterMap_le _ _) (by rw [List.length_take]; omega)
    have HJ := Lib.hid hj
    obtain ⟨⟨v, ho, hc, hown⟩, hf, hlt⟩ := hj
    have hlt4 : w.heap.size + 1 < W4.heap.size := hlt
    obtain ⟨d, hdd⟩ : ∃ d, ((f.all 1).take k).filterMap predOf = d := ⟨_, rfl⟩
    rw [hdd] at hown hlen hstep
    clear hcc hne hbl hbb hrep hbox hbw hS hA0 hb1 hx hxe hC hz hb0
    have hz4 : W4.heap.size ≤ W3.heap.size + 1 ∧ W3.heap.size + 1 ≤ W4.heap.size := by omega
    clear hz3
    generalize x.2.op = o at *
    generalize x.2.n = nm at *
    generalize x.2.args.length = la at *
    by_cases h1 : o = 1
    · subst h1
      rw [if_pos rfl] at hpo
      rw [hpo] at hstep
      have HD := Lib.hid hstep
      have HO := Lib.hid ho
      have HW := Lib.hid hown
      obtain ⟨i0, hi, hz0, hz1, hz2⟩ := info_parts infoS
      clear hstep ho hpo hdd hown
      gi_wp2_with ((gi_at_builtin; refine wpListIn_append_own_at _ rfl _ _ 44 rfl (w.heap.size + 1 + 1) 55 i0 (.agg #[.string ByteArray.empty, .int .i64 0]) 2 24 Tryd.underlying44 hi hz0 hz1 hz2 rfl (by decide) v d.length (d.flatMap encSy) rfl (own_below HW.out ((Below.refl _ _).alloc (Nat.le_refl _) _)) ⟨W4.heap.size, 0, none⟩ 1 1 [.string nm, .int .i64 (la : Int)] rfl rfl (new_two _ _ _ _) (by simp [Value.oneCell']) (by unfold maxLen; omega) (by omega) (by simp; omega) ?_))
      intro v' w' hown' hgrow hnil hat
      obtain ⟨a9, k9, rfl⟩ : ∃ a c, v' = .slice a (d.length + 1) c := by
        rcases own_cells hown' with ⟨_, h0, _⟩ | ⟨g, cap, h0, _⟩
        · omega
        · exact ⟨_, _, h0⟩
      obtain ⟨O', h1', h2', h3'⟩ := SJ.step HD.out HO.out hc hf hlt HW.out hown' hgrow hat
      have H1 := Lib.hid h1'
      have H2 := Lib.hid h2'
      have H3 := Lib.hid h3'
      have hfr : w'.cell? ⟨w.heap.size + 1, 0, none⟩ = some v ∧ w'.frozen? ⟨w.heap.size + 1, 0, none⟩ = false := by
        have hb : w'.heap[w.heap.size + 1]? = W4.heap[w.heap.size + 1]? := (hgrow.block _ (by rw [World.size_alloc]; omega) fun e => by have := (HW.out.lt _ e.symm).1; omega).trans (((Below.refl _ _).alloc (Nat.le_refl _) _).block _ hlt4)
        exact ⟨(World.cell?_of_block hb).trans hc, (World.frozen?_of_block hb).trans hf⟩
      obtain ⟨q1, q2⟩ := hfr
      clear h1' h2' h3' hown' hgrow hnil hat hc hf
      gi_wp2
      exact ⟨O', H1.out, H2.out, H3.out⟩
    · rw [if_neg h1] at hpo
      rw [hpo] at hstep
      have HD := Lib.hid hstep
      have HDD := Lib.hid hdd
      have hb1 : (o == 1) = false := by simpa using h1
      clear hstep hpo hdd h1
      gi_wp2
      obtain ⟨⟨v', ho', hc', hr'⟩, hf', hl'⟩ := HJ.out
      exact ⟨O2, Sub.refl _ _, Grow.refl _ _, ⟨v', ho', hc', by rw [HD.out]; rw [HDD.out] at hr'; simpa using hr'⟩, hf', hl'⟩
  case stop => exact fun c O' W h => h.elim
  case done =>
    rintro O2 W2 ⟨⟨v, ho, hc, hown⟩, hf, hlt⟩ hs2 nD hg2 hK
    rw [List.take_length] at hown
    have hlen : (predsL f).length ≤ 1099511627776 := Nat.le_trans (List.length_filterMap_le _ _) hsz
    have HI := Lib.hid (HIO (w.heap.size + 1 + 1) v (predsL f) W2 hown hlen hA)
    have hlD : W1.heap.size < W2.heap.size := lt_of_heap hK
    have hbg : ∀ g, v.ownBlock = some g → w.heap.size ≤ g ∧ g ≠ W1.heap.size := fun g h => ⟨by have := (hown.lt g h).1; omega, fun e => nD ((ho _).2 (.inr (e ▸ h)))⟩
    have HB := Lib.hid hbg
    have HG := Lib.hid ((Grow.of_below (O := fun b => b = w.heap.size + 1) hbw).trans hg2 (Sub.refl _ _))
    have HK := Lib.hid hK
    clear hbox hb1 hbw hA0 hS hb0 ho hs2 hg2 hown hlen hsz hF hK nD hbg
    gi_wp2_with fail
    refine ⟨trivial, rfl, (callsIn_wide.2 HI.out).mono ?_⟩
    rintro e W3 ⟨a, cap, rfl, hor, hg3⟩
    have HK3 := Lib.hid ((hg3.block _ hlD fun h => (HB.out _ h).2 rfl).trans HK.out)
    have HOR := Lib.hid hor
    have hG := Lib.hid ((HG.out.trans hg3 (fun b hb => .inr (HB.out b hb).1)).taken (D := W1.heap.size) (by omega) (.deferred none))
    clear hor hg3
    gi_wp2
    refine ⟨by simp, .inl ⟨_, _, rfl, run_takeDeferred HK3.out, ?_⟩⟩
    refine ⟨_, results_tmp rfl _ _ _, a, cap, rfl, ?_, hG.out.below (Nat.le_refl _) fun b hb => by omega⟩
    rcases HOR.out with h | ⟨g, h1, h2, h3⟩
    · exact .inl h
    · exact .inr ⟨g, h1, (HB.out g h2).1, h3.of_block (World.putObj_heap_other (HB.out g h2).2)⟩
end Go.Proofs.YtnadjkofjgpabaaDoor.Fm

/-
  The chapter's examples: what is parsed.
-/
import Derived.Test.YtkeckecdhcknhaaDoorMgEx
namespace Go.Proofs.YtkeckecdhcknhaaDoor.Ps
open Go Go.RowKit Go.Shelf Go.Proofs.YtkeckecdhcknhaaDoor.Fm Go.Proofs.YtkeckecdhcknhaaDoor.Lx
set_option linter.unusedVariables false
set_option linter.unusedSimpArgs false
theorem FVal.below {lo : Nat} {w w' : World} {v : Value} {f : Fo} (h : FVal lo w v f) (hb : Below w.heap.size w w') : FVal lo w' v f := by
  obtain ⟨a, c, a', c', h1, h2, h3, h4, h5⟩ := h
  have k1 : ∀ b, Own lo w b → ∀ q, w'.cell? ⟨b, q, none⟩ = w.cell? ⟨b, q, none⟩ := fun b h q => hb.cell (p := ⟨b, q, none⟩) h.2
  have k2 : ∀ b, Own lo w b → Own lo w' b := fun b h => ⟨h.1, Nat.lt_of_lt_of_le h.2 hb.size⟩
  exact ⟨a, c, a', c', h1, h2, h3, h4.keep k1 k2, h5.keep k1 k2⟩
theorem Bx4.below {w w' : World} {L : Nat} {x0 x1 x2 x3 : Value} (h : Bx4 w L x0 x1 x2 x3) (hb : Below w.heap.size w w') : Bx4 w' L x0 x1 x2 x3 := h.heap (hb.block L h.lt) (Nat.lt_of_lt_of_le h.lt hb.size)
theorem fval_of2 {lo g : Nat} {w : World} (o : Int) (n : ByteArray) (ho : 0 ≤ o ∧ o ≤ 255) (hn : okStr n) {f a : Fo} {x2 x3 a2 a3 : Option Addr} {l2 l3 m2 m3 c2 c3 k2 k3 : Nat} {of oa : Int} {nf na : ByteArray} (hg : Own lo w g)
    (hf : FVal lo w (.agg #[.int .u8 of, .string nf, .slice x2 l2 c2, .slice x3 l3 c3]) f) (ha : FVal lo w (.agg #[.int .u8 oa, .string na, .slice a2 m2 k2, .slice a3 m3 k3]) a)
    (hc : ∀ j u, [Value.int .u8 of, .string nf, .slice x2 l2 c2, .slice x3 l3 c3, .int .u8 oa, .string na, .slice a2 m2 k2, .slice a3 m3 k3][j]? = some u → w.cell? ⟨g, j, none⟩ = some u) :
    FVal lo w (.agg #[.int .u8 o, .string n, .slice none 0 0, .slice (some ⟨g, 0, none⟩) 2 2]) (.mk o n [] [f, a]) := by
  obtain ⟨y2, d2, y3, d3, he', ho1, hn1, h21, h31⟩ := hf
  simp only [Value.agg.injEq, Array.mk.injEq, List.cons.injEq, Value.slice.injEq, Value.int.injEq, Value.string.injEq, true_and, and_true] at he'
  obtain ⟨rfl, rfl, ⟨rfl, rfl, rfl⟩, rfl, rfl, rfl⟩ := he'
  obtain ⟨b2, e2, b3, e3, he, ho', hn', h2, h3⟩ := ha
  simp only [Value.agg.injEq, Array.mk.injEq, List.cons.injEq, Value.slice.injEq, Value.int.injEq, Value.string.injEq, true_and, and_true] at he
  obtain ⟨rfl, rfl, ⟨rfl, rfl, rfl⟩, rfl, rfl, rfl⟩ := he
  refine ⟨none, 0, some ⟨g, 0, none⟩, 2, rfl, ho, hn, nil_ts _ _, ⟨some ⟨g, 0, none⟩, 2, g, 0, rfl, by simp [Fo.sub], .inr ⟨rfl, hg⟩, ?_⟩⟩
  exact RowF.fsD (RowF.snoc ho' hn' h2 h3 (RowF.snoc (l := []) ho1 hn1 h21 h31 rfl)) fun j u hj => by rw [Nat.zero_add]; exact hc j u hj
theorem fval_of1 {lo g : Nat} {w : World} (o : Int) (n : ByteArray) (ho : 0 ≤ o ∧ o ≤ 255) (hn : okStr n) {a : Fo} {a2 a3 : Option Addr} {m2 m3 k2 k3 : Nat} {oa : Int} {na : ByteArray} (hg : Own lo w g)
    (ha : FVal lo w (.agg #[.int .u8 oa, .string na, .slice a2 m2 k2, .slice a3 m3 k3]) a)
    (hc : ∀ j u, [Value.int .u8 oa, .string na, .slice a2 m2 k2, .slice a3 m3 k3][j]? = some u → w.cell? ⟨g, j, none⟩ = some u) :
    FVal lo w (.agg #[.int .u8 o, .string n, .slice none 0 0, .slice (some ⟨g, 0, none⟩) 1 1]) (.mk o n [] [a]) := by
  obtain ⟨b2, e2, b3, e3, he, ho', hn', h2, h3⟩ := ha
  simp only [Value.agg.injEq, Array.mk.injEq, List.cons.injEq, Value.slice.injEq, Value.int.injEq, Value.string.injEq, true_and, and_true] at he
  obtain ⟨rfl, rfl, ⟨rfl, rfl, rfl⟩, rfl, rfl, rfl⟩ := he
  refine ⟨none, 0, some ⟨g, 0, none⟩, 1, rfl, ho, hn, nil_ts _ _, ⟨some ⟨g, 0, none⟩, 1, g, 0, rfl, by simp [Fo.sub], .inr ⟨rfl, hg⟩, ?_⟩⟩
  exact RowF.fsD (RowF.snoc (l := []) ho' hn' h2 h3 rfl) fun j u hj => by rw [Nat.zero_add]; exact hc j u hj
/-- A formula with one, two variables as its terms. -/
theorem fval_v1 {lo g : Nat} {w : World} (o : Int) (n x : ByteArray) (ho : 0 ≤ o ∧ o ≤ 255) (hn : okStr n) (hx : okStr x) (hg : Own lo w g)
    (hc : ∀ j u, [Value.bool true, .string x, .slice none 0 0][j]? = some u → w.cell? ⟨g, j, none⟩ = some u) : FVal lo w (.agg #[.int .u8 o, .string n, .slice (some ⟨g, 0, none⟩) 1 1, .slice none 0 0]) (.mk o n [.mk true x []] []) := by
  refine ⟨some ⟨g, 0, none⟩, 1, none, 0, rfl, ho, hn, ⟨some ⟨g, 0, none⟩, 1, g, 0, rfl, by simp [Fo.args], .inr ⟨rfl, hg⟩, ?_⟩, nil_fs _ _⟩
  exact RowT.tsD (RowT.snoc (t := .mk true x []) (l := []) hx (nil_ts _ _) rfl) fun j u hj => by rw [Nat.zero_add]; exact hc j u hj
theorem fval_v2 {lo g : Nat} {w : World} (o : Int) (n x y : ByteArray) (ho : 0 ≤ o ∧ o ≤ 255) (hn : okStr n) (hx : okStr x) (hy : okStr y) (hg : Own lo w g)
    (hc : ∀ j u, [Value.bool true, .string x, .slice none 0 0, .bool true, .string y, .slice none 0 0][j]? = some u → w.cell? ⟨g, j, none⟩ = some u) : FVal lo w (.agg #[.int .u8 o, .string n, .slice (some ⟨g, 0, none⟩) 2 2, .slice none 0 0]) (.mk o n [.mk true x [], .mk true y []] []) := by
  refine ⟨some ⟨g, 0, none⟩, 2, none, 0, rfl, ho, hn, ⟨some ⟨g, 0, none⟩, 2, g, 0, rfl, by simp [Fo.args], .inr ⟨rfl, hg⟩, ?_⟩, nil_fs _ _⟩
  exact RowT.tsD (RowT.snoc (t := .mk true y []) hy (nil_ts _ _) (RowT.snoc (t := .mk true x []) (l := []) hx (nil_ts _ _) rfl)) fun j u hj => by rw [Nat.zero_add]; exact hc j u hj
/-- What awake's first part holds on to. -/
def AwQ (W : World) (A : Nat) (w : World) : Prop := Below W.heap.size W w
set_option maxRecDepth 20000 in
set_option maxHeartbeats 8000000 in
theorem awake_c (W : World) (hT : RTab W) (hL : LTab W W.heap.size) : Calls Tryd.prog 5 #[] W fun e w' => e = .returned (.bool true) ∧ Below W.heap.size W w' := by
  obtain ⟨Q, hQ⟩ : ∃ Q : Ending → World → Prop, Q = fun e w' => e = .returned (.bool true) ∧ Below W.heap.size W w' := ⟨_, rfl⟩
  rw [← hQ]
  have HQ := Lib.hid hQ
  have HT := Lib.hid hT
  have HL := Lib.hid hL
  have HB := Lib.hid (Below.refl W.heap.size W)
  clear hQ hT hL
  go_enter Tryd.func5, Tryd.ntmps5
  go_wp2_with fail
  obtain ⟨w0, hw0⟩ : ∃ w0, w0 = W := ⟨_, rfl⟩
  clear w0 hw0
  refine (p_c ⟨#[80]⟩ none 0 0 W).mono ?_
  rintro e w1 ⟨rfl, hb⟩
  replace HB := Lib.hid (HB.out.trans hb)
  clear hb
  go_wp2_with fail
  refine (p_c ⟨#[81]⟩ none 0 0 _).mono ?_
  rintro e w2 ⟨rfl, hb⟩
  replace HB := Lib.hid (HB.out.trans (hb.mono HB.out.size))
  clear hb
  go_wp2_with fail
  generalize hX : w2.alloc (.cells #[.int .u8 1, .string ⟨#[80]⟩, .slice none 0 0, .slice none 0 0, .int .u8 1, .string ⟨#[81]⟩, .slice none 0 0, .slice none 0 0] 25) = w3
  have hb : Below w2.heap.size w2 w3 := by rw [← hX]; exact (Below.refl _ _).alloc (Nat.le_refl _) _
  have hc : ∀ j u, [Value.int .u8 1, .string ⟨#[80]⟩, .slice none 0 0, .slice none 0 0, .int .u8 1, .string ⟨#[81]⟩, .slice none 0 0, .slice none 0 0][j]? = some u → w3.cell? ⟨w2.heap.size, j, none⟩ = some u := fun j u hj => by rw [← hX, World.cell?_alloc_at _ _ _ _ rfl, ← hj]; simp
  have ho : Own W.heap.size w3 w2.heap.size := ⟨HB.out.size, by rw [← hX]; simp⟩
  replace HB := Lib.hid (HB.out.trans (hb.mono HB.out.size))
  have F1 := Lib.hid (show FVal W.heap.size w3 (.agg #[.int .u8 4, .string ⟨#[]⟩, .slice none 0 0, .slice (some ⟨w2.heap.size, 0, none⟩) 2 2]) (.mk 4 ⟨#[]⟩ [] [(.mk 1 ⟨#[80]⟩ [] []), (.mk 1 ⟨#[81]⟩ [] [])]) from fval_of2 4 ⟨#[]⟩ (by omega) (ok_str (by decide)) ho (fval_leaf 1 ⟨#[80]⟩ (by omega) (ok_str (by decide))) (fval_leaf 1 ⟨#[81]⟩ (by omega) (ok_str (by decide))) hc)
  clear hX hb hc ho
  refine (of_c 4 ⟨#[]⟩ (some ⟨w2.heap.size, 0, none⟩) 2 2 _).mono ?_
  rintro e w4 ⟨rfl, hb⟩
  replace F1 := Lib.hid (F1.out.below hb)
  replace HB := Lib.hid (HB.out.trans (hb.mono HB.out.size))
  clear hb
  go_wp2_with fail
  refine (p_c ⟨#[82]⟩ none 0 0 _).mono ?_
  rintro e w5 ⟨rfl, hb⟩
  replace F1 := Lib.hid (F1.out.below hb)
  replace HB := Lib.hid (HB.out.trans (hb.mono HB.out.size))
  clear hb
  go_wp2_with fail
  generalize hX : w5.alloc (.cells #[.int .u8 4, .string ⟨#[]⟩, .slice none 0 0, .slice (some ⟨w2.heap.size, 0, none⟩) 2 2, .int .u8 1, .string ⟨#[82]⟩, .slice none 0 0, .slice none 0 0] 25) = w6
  have hb : Below w5.heap.size w5 w6 := by rw [← hX]; exact (Below.refl _ _).alloc (Nat.le_refl _) _
  have hc : ∀ j u, [Value.int .u8 4, .string ⟨#[]⟩, .slice none 0 0, .slice (some ⟨w2.heap.size, 0, none⟩) 2 2, .int .u8 1, .string ⟨#[82]⟩, .slice none 0 0, .slice none 0 0][j]? = some u → w6.cell? ⟨w5.heap.size, j, none⟩ = some u := fun j u hj => by rw [← hX, World.cell?_alloc_at _ _ _ _ rfl, ← hj]; simp
  have ho : Own W.heap.size w6 w5.heap.size := ⟨HB.out.size, by rw [← hX]; simp⟩
  replace F1 := Lib.hid (F1.out.below hb)
  replace HB := Lib.hid (HB.out.trans (hb.mono HB.out.size))
  have F2 := Lib.hid (show FVal W.heap.size w6 (.agg #[.int .u8 4, .string ⟨#[]⟩, .slice none 0 0, .slice (some ⟨w5.heap.size, 0, none⟩) 2 2]) (.mk 4 ⟨#[]⟩ [] [(.mk 4 ⟨#[]⟩ [] [(.mk 1 ⟨#[80]⟩ [] []), (.mk 1 ⟨#[81]⟩ [] [])]), (.mk 1 ⟨#[82]⟩ [] [])]) from fval_of2 4 ⟨#[]⟩ (by omega) (ok_str (by decide)) ho F1.out (fval_leaf 1 ⟨#[82]⟩ (by omega) (ok_str (by decide))) hc)
  clear F1
  clear hX hb hc ho
  refine (of_c 4 ⟨#[]⟩ (some ⟨w5.heap.size, 0, none⟩) 2 2 _).mono ?_
  rintro e w7 ⟨rfl, hb⟩
  replace F2 := Lib.hid (F2.out.below hb)
  replace HB := Lib.hid (HB.out.trans (hb.mono HB.out.size))
  clear hb
  go_wp2_with fail
  refine (p_c ⟨#[84]⟩ none 0 0 _).mono ?_
  rintro e w8 ⟨rfl, hb⟩
  replace F2 := Lib.hid (F2.out.below hb)
  replace HB := Lib.hid (HB.out.trans (hb.mono HB.out.size))
  clear hb
  go_wp2_with fail
  refine (p_c ⟨#[85, 49]⟩ none 0 0 _).mono ?_
  rintro e w9 ⟨rfl, hb⟩
  replace F2 := Lib.hid (F2.out.below hb)
  replace HB := Lib.hid (HB.out.trans (hb.mono HB.out.size))
  clear hb
  go_wp2_with fail
  generalize hX : w9.alloc (.cells #[.int .u8 1, .string ⟨#[84]⟩, .slice none 0 0, .slice none 0 0, .int .u8 1, .string ⟨#[85, 49]⟩, .slice none 0 0, .slice none 0 0] 25) = w10
  have hb : Below w9.heap.size w9 w10 := by rw [← hX]; exact (Below.refl _ _).alloc (Nat.le_refl _) _
  have hc : ∀ j u, [Value.int .u8 1, .string ⟨#[84]⟩, .slice none 0 0, .slice none 0 0, .int .u8 1, .string ⟨#[85, 49]⟩, .slice none 0 0, .slice none 0 0][j]? = some u → w10.cell? ⟨w9.heap.size, j, none⟩ = some u := fun j u hj => by rw [← hX, World.cell?_alloc_at _ _ _ _ rfl, ← hj]; simp
  have ho : Own W.heap.size w10 w9.heap.size := ⟨HB.out.size, by rw [← hX]; simp⟩
  replace F2 := Lib.hid (F2.out.below hb)
  replace HB := Lib.hid (HB.out.trans (hb.mono HB.out.size))
  have F3 := Lib.hid (show FVal W.heap.size w10 (.agg #[.int .u8 6, .string ⟨#[]⟩, .slice none 0 0, .slice (some ⟨w9.heap.size, 0, none⟩) 2 2]) (.mk 6 ⟨#[]⟩ [] [(.mk 1 ⟨#[84]⟩ [] []), (.mk 1 ⟨#[85, 49]⟩ [] [])]) from fval_of2 6 ⟨#[]⟩ (by omega) (ok_str (by decide)) ho (fval_leaf 1 ⟨#[84]⟩ (by omega) (ok_str (by decide))) (fval_leaf 1 ⟨#[85, 49]⟩ (by omega) (ok_str (by decide))) hc)
  clear hX hb hc ho
  refine (of_c 6 ⟨#[]⟩ (some ⟨w9.heap.size, 0, none⟩) 2 2 _).mono ?_
  rintro e w11 ⟨rfl, hb⟩
  replace F2 := Lib.hid (F2.out.below hb)
  replace F3 := Lib.hid (F3.out.below hb)
  replace HB := Lib.hid (HB.out.trans (hb.mono HB.out.size))
  clear hb
  go_wp2_with fail
  refine (p_c ⟨#[80]⟩ none 0 0 _).mono ?_
  rintro e w12 ⟨rfl, hb⟩
  replace F2 := Lib.hid (F2.out.below hb)
  replace F3 := Lib.hid (F3.out.below hb)
  replace HB := Lib.hid (HB.out.trans (hb.mono HB.out.size))
  clear hb
  go_wp2_with fail
  refine (p_c ⟨#[81]⟩ none 0 0 _).mono ?_
  rintro e w13 ⟨rfl, hb⟩
  replace F2 := Lib.hid (F2.out.below hb)
  replace F3 := Lib.hid (F3.out.below hb)
  replace HB := Lib.hid (HB.out.trans (hb.mono HB.out.size))
  clear hb
  go_wp2_with fail
  generalize hX : w13.alloc (.cells #[.int .u8 1, .string ⟨#[80]⟩, .slice none 0 0, .slice none 0 0, .int .u8 1, .string ⟨#[81]⟩, .slice none 0 0, .slice none 0 0] 25) = w14
  have hb : Below w13.heap.size w13 w14 := by rw [← hX]; exact (Below.refl _ _).alloc (Nat.le_refl _) _
  have hc : ∀ j u, [Value.int .u8 1, .string ⟨#[80]⟩, .slice none 0 0, .slice none 0 0, .int .u8 1, .string ⟨#[81]⟩, .slice none 0 0, .slice none 0 0][j]? = some u → w14.cell? ⟨w13.heap.size, j, none⟩ = some u := fun j u hj => by rw [← hX, World.cell?_alloc_at _ _ _ _ rfl, ← hj]; simp
  have ho : Own W.heap.size w14 w13.heap.size := ⟨HB.out.size, by rw [← hX]; simp⟩
  replace F2 := Lib.hid (F2.out.below hb)
  replace F3 := Lib.hid (F3.out.below hb)
  replace HB := Lib.hid (HB.out.trans (hb.mono HB.out.size))
  have F4 := Lib.hid (show FVal W.heap.size w14 (.agg #[.int .u8 6, .string ⟨#[]⟩, .slice none 0 0, .slice (some ⟨w13.heap.size, 0, none⟩) 2 2]) (.mk 6 ⟨#[]⟩ [] [(.mk 1 ⟨#[80]⟩ [] []), (.mk 1 ⟨#[81]⟩ [] [])]) from fval_of2 6 ⟨#[]⟩ (by omega) (ok_str (by decide)) ho (fval_leaf 1 ⟨#[80]⟩ (by omega) (ok_str (by decide))) (fval_leaf 1 ⟨#[81]⟩ (by omega) (ok_str (by decide))) hc)
  clear hX hb hc ho
  refine (of_c 6 ⟨#[]⟩ (some ⟨w13.heap.size, 0, none⟩) 2 2 _).mono ?_
  rintro e w15 ⟨rfl, hb⟩
  replace F2 := Lib.hid (F2.out.below hb)
  replace F3 := Lib.hid (F3.out.below hb)
  replace F4 := Lib.hid (F4.out.below hb)
  replace HB := Lib.hid (HB.out.trans (hb.mono HB.out.size))
  clear hb
  go_wp2_with fail
  refine (p_c ⟨#[82]⟩ none 0 0 _).mono ?_
  rintro e w16 ⟨rfl, hb⟩
  replace F2 := Lib.hid (F2.out.below hb)
  replace F3 := Lib.hid (F3.out.below hb)
  replace F4 := Lib.hid (F4.out.below hb)
  replace HB := Lib.hid (HB.out.trans (hb.mono HB.out.size))
  clear hb
  go_wp2_with fail
  generalize hX : w16.alloc (.cells #[.int .u8 6, .string ⟨#[]⟩, .slice none 0 0, .slice (some ⟨w13.heap.size, 0, none⟩) 2 2, .int .u8 1, .string ⟨#[82]⟩, .slice none 0 0, .slice none 0 0] 25) = w17
  have hb : Below w16.heap.size w16 w17 := by rw [← hX]; exact (Below.refl _ _).alloc (Nat.le_refl _) _
  have hc : ∀ j u, [Value.int .u8 6, .string ⟨#[]⟩, .slice none 0 0, .slice (some ⟨w13.heap.size, 0, none⟩) 2 2, .int .u8 1, .string ⟨#[82]⟩, .slice none 0 0, .slice none 0 0][j]? = some u → w17.cell? ⟨w16.heap.size, j, none⟩ = some u := fun j u hj => by rw [← hX, World.cell?_alloc_at _ _ _ _ rfl, ← hj]; simp
  have ho : Own W.heap.size w17 w16.heap.size := ⟨HB.out.size, by rw [← hX]; simp⟩
  replace F2 := Lib.hid (F2.out.below hb)
  replace F3 := Lib.hid (F3.out.below hb)
  replace F4 := Lib.hid (F4.out.below hb)
  replace HB := Lib.hid (HB.out.trans (hb.mono HB.out.size))
  have F5 := Lib.hid (show FVal W.heap.size w17 (.agg #[.int .u8 7, .string ⟨#[]⟩, .slice none 0 0, .slice (some ⟨w16.heap.size, 0, none⟩) 2 2]) (.mk 7 ⟨#[]⟩ [] [(.mk 6 ⟨#[]⟩ [] [(.mk 1 ⟨#[80]⟩ [] []), (.mk 1 ⟨#[81]⟩ [] [])]), (.mk 1 ⟨#[82]⟩ [] [])]) from fval_of2 7 ⟨#[]⟩ (by omega) (ok_str (by decide)) ho F4.out (fval_leaf 1 ⟨#[82]⟩ (by omega) (ok_str (by decide))) hc)
  clear F4
  clear hX hb hc ho
  refine (of_c 7 ⟨#[]⟩ (some ⟨w16.heap.size, 0, none⟩) 2 2 _).mono ?_
  rintro e w18 ⟨rfl, hb⟩
  replace F2 := Lib.hid (F2.out.below hb)
  replace F3 := Lib.hid (F3.out.below hb)
  replace F5 := Lib.hid (F5.out.below hb)
  replace HB := Lib.hid (HB.out.trans (hb.mono HB.out.size))
  clear hb
  go_upto_region 2 with fail
  generalize hX : w18.alloc (.cells #[.int .u8 4, .string ⟨#[]⟩, .slice none 0 0, .slice (some ⟨w5.heap.size, 0, none⟩) 2 2] 25) = w19
  have hb : Below w18.heap.size w18 w19 := by rw [← hX]; exact (Below.refl _ _).alloc (Nat.le_refl _) _
  have hc : ∀ j u, [Value.int .u8 4, .string ⟨#[]⟩, .slice none 0 0, .slice (some ⟨w5.heap.size, 0, none⟩) 2 2][j]? = some u → w19.cell? ⟨w18.heap.size, j, none⟩ = some u := fun j u hj => by rw [← hX, World.cell?_alloc_at _ _ _ _ rfl, ← hj]; simp
  have ho : Own W.heap.size w19 w18.heap.size := ⟨HB.out.size, by rw [← hX]; simp⟩
  replace F2 := Lib.hid (F2.out.below hb)
  replace F3 := Lib.hid (F3.out.below hb)
  replace F5 := Lib.hid (F5.out.below hb)
  replace HB := Lib.hid (HB.out.trans (hb.mono HB.out.size))
  have B0 := Lib.hid (show Bx4 w19 (w18.heap.size) (.int .u8 4) (.string ⟨#[]⟩) (.slice none 0 0) (.slice (some ⟨w5.heap.size, 0, none⟩) 2 2) from by rw [← hX]; first | exact Bx4.new _ _ _ _ _ _ | (have h := Bx4.new w18 (.int .u8 4) (.string ⟨#[]⟩) (.slice none 0 0) (.slice (some ⟨w5.heap.size, 0, none⟩) 2 2) 25; rw [hs0] at h; exact h))
  have hs1 : w19.heap.size = w18.heap.size + 1 := by rw [← hX]; simp
  clear hX hb hc ho
  generalize hX : w19.alloc (.cells #[.int .u8 6, .string ⟨#[]⟩, .slice none 0 0, .slice (some ⟨w9.heap.size, 0, none⟩) 2 2] 25) = w20
  have hb : Below w19.heap.size w19 w20 := by rw [← hX]; exact (Below.refl _ _).alloc (Nat.le_refl _) _
  have hc : ∀ j u, [Value.int .u8 6, .string ⟨#[]⟩, .slice none 0 0, .slice (some ⟨w9.heap.size, 0, none⟩) 2 2][j]? = some u → w20.cell? ⟨w19.heap.size, j, none⟩ = some u := fun j u hj => by rw [← hX, World.cell?_alloc_at _ _ _ _ rfl, ← hj]; simp
  have ho : Own W.heap.size w20 w19.heap.size := ⟨HB.out.size, by rw [← hX]; simp⟩
  replace F2 := Lib.hid (F2.out.below hb)
  replace F3 := Lib.hid (F3.out.below hb)
  replace F5 := Lib.hid (F5.out.below hb)
  replace B0 := Lib.hid (B0.out.below hb)
  replace HB := Lib.hid (HB.out.trans (hb.mono HB.out.size))
  have B1 := Lib.hid (show Bx4 w20 (w18.heap.size + 1) (.int .u8 6) (.string ⟨#[]⟩) (.slice none 0 0) (.slice (some ⟨w9.heap.size, 0, none⟩) 2 2) from by rw [← hX]; first | exact Bx4.new _ _ _ _ _ _ | (have h := Bx4.new w19 (.int .u8 6) (.string ⟨#[]⟩) (.slice none 0 0) (.slice (some ⟨w9.heap.size, 0, none⟩) 2 2) 25; rw [hs1] at h; exact h))
  have hs2 : w20.heap.size = w18.heap.size + 1 + 1 := by rw [← hX]; simp [hs1]
  clear hX hb hc ho
  generalize hX : w20.alloc (.cells #[.int .u8 7, .string ⟨#[]⟩, .slice none 0 0, .slice (some ⟨w16.heap.size, 0, none⟩) 2 2] 25) = w21
  have hb : Below w20.heap.size w20 w21 := by rw [← hX]; exact (Below.refl _ _).alloc (Nat.le_refl _) _
  have hc : ∀ j u, [Value.int .u8 7, .string ⟨#[]⟩, .slice none 0 0, .slice (some ⟨w16.heap.size, 0, none⟩) 2 2][j]? = some u → w21.cell? ⟨w20.heap.size, j, none⟩ = some u := fun j u hj => by rw [← hX, World.cell?_alloc_at _ _ _ _ rfl, ← hj]; simp
  have ho : Own W.heap.size w21 w20.heap.size := ⟨HB.out.size, by rw [← hX]; simp⟩
  replace F2 := Lib.hid (F2.out.below hb)
  replace F3 := Lib.hid (F3.out.below hb)
  replace F5 := Lib.hid (F5.out.below hb)
  replace B0 := Lib.hid (B0.out.below hb)
  replace B1 := Lib.hid (B1.out.below hb)
  replace HB := Lib.hid (HB.out.trans (hb.mono HB.out.size))
  have B2 := Lib.hid (show Bx4 w21 (w18.heap.size + 1 + 1) (.int .u8 7) (.string ⟨#[]⟩) (.slice none 0 0) (.slice (some ⟨w16.heap.size, 0, none⟩) 2 2) from by rw [← hX]; first | exact Bx4.new _ _ _ _ _ _ | (have h := Bx4.new w20 (.int .u8 7) (.string ⟨#[]⟩) (.slice none 0 0) (.slice (some ⟨w16.heap.size, 0, none⟩) 2 2) 25; rw [hs2] at h; exact h))
  have hs3 : w21.heap.size = w18.heap.size + 1 + 1 + 1 := by rw [← hX]; simp [hs2]
  clear hX hb hc ho
  clear hs1 hs2 hs3
  go_wp2_with fail
  refine (v_c ⟨#[120]⟩ _).mono ?_
  rintro e w22 ⟨rfl, hb⟩
  replace F2 := Lib.hid (F2.out.below hb)
  replace F3 := Lib.hid (F3.out.below hb)
  replace F5 := Lib.hid (F5.out.below hb)
  replace B0 := Lib.hid (B0.out.below hb)
  replace B1 := Lib.hid (B1.out.below hb)
  replace B2 := Lib.hid (B2.out.below hb)
  replace HB := Lib.hid (HB.out.trans (hb.mono HB.out.size))
  clear hb
  go_wp2_with fail
  refine (v_c ⟨#[63, 116]⟩ _).mono ?_
  rintro e w23 ⟨rfl, hb⟩
  replace F2 := Lib.hid (F2.out.below hb)
  replace F3 := Lib.hid (F3.out.below hb)
  replace F5 := Lib.hid (F5.out.below hb)
  replace B0 := Lib.hid (B0.out.below hb)
  replace B1 := Lib.hid (B1.out.below hb)
  replace B2 := Lib.hid (B2.out.below hb)
  replace HB := Lib.hid (HB.out.trans (hb.mono HB.out.size))
  clear hb
  go_upto_region 3 with fail
  generalize hX : w23.alloc (.cells #[.bool true, .string ⟨#[120]⟩, .slice none 0 0, .bool true, .string ⟨#[63, 116]⟩, .slice none 0 0] 44) = w24
  have hb : Below w23.heap.size w23 w24 := by rw [← hX]; exact (Below.refl _ _).alloc (Nat.le_refl _) _
  have hc : ∀ j u, [Value.bool true, .string ⟨#[120]⟩, .slice none 0 0, .bool true, .string ⟨#[63, 116]⟩, .slice none 0 0][j]? = some u → w24.cell? ⟨w23.heap.size, j, none⟩ = some u := fun j u hj => by rw [← hX, World.cell?_alloc_at _ _ _ _ rfl, ← hj]; simp
  have ho : Own W.heap.size w24 w23.heap.size := ⟨HB.out.size, by rw [← hX]; simp⟩
  replace F2 := Lib.hid (F2.out.below hb)
  replace F3 := Lib.hid (F3.out.below hb)
  replace F5 := Lib.hid (F5.out.below hb)
  replace B0 := Lib.hid (B0.out.below hb)
  replace B1 := Lib.hid (B1.out.below hb)
  replace B2 := Lib.hid (B2.out.below hb)
  replace HB := Lib.hid (HB.out.trans (hb.mono HB.out.size))
  have hg : 0 < 1 := by decide
  have F6 := Lib.hid (show FVal W.heap.size w24 (.agg #[.int .u8 16, .string ⟨#[63, 65]⟩, .slice (some ⟨w23.heap.size, 0, none⟩) 2 2, .slice none 0 0]) (.mk 16 ⟨#[63, 65]⟩ [.mk true ⟨#[120]⟩ [], .mk true ⟨#[63, 116]⟩ []] []) from fval_v2 16 ⟨#[63, 65]⟩ ⟨#[120]⟩ ⟨#[63, 116]⟩ (by omega) (ok_str (by decide)) (ok_str (by decide)) (ok_str (by decide)) ho hc)
  have hs4 : w24.heap.size = w23.heap.size + 1 := by rw [← hX]; simp
  clear hX hb hc ho
  generalize hX : w24.alloc (.cells #[.int .u8 16, .string ⟨#[63, 65]⟩, .slice (some ⟨w23.heap.size, 0, none⟩) 2 2, .slice none 0 0] 25) = w25
  have hb : Below w24.heap.size w24 w25 := by rw [← hX]; exact (Below.refl _ _).alloc (Nat.le_refl _) _
  have hc : ∀ j u, [Value.int .u8 16, .string ⟨#[63, 65]⟩, .slice (some ⟨w23.heap.size, 0, none⟩) 2 2, .slice none 0 0][j]? = some u → w25.cell? ⟨w24.heap.size, j, none⟩ = some u := fun j u hj => by rw [← hX, World.cell?_alloc_at _ _ _ _ rfl, ← hj]; simp
  have ho : Own W.heap.size w25 w24.heap.size := ⟨HB.out.size, by rw [← hX]; simp⟩
  replace F2 := Lib.hid (F2.out.below hb)
  replace F3 := Lib.hid (F3.out.below hb)
  replace F5 := Lib.hid (F5.out.below hb)
  replace B0 := Lib.hid (B0.out.below hb)
  replace B1 := Lib.hid (B1.out.below hb)
  replace B2 := Lib.hid (B2.out.below hb)
  replace F6 := Lib.hid (F6.out.below hb)
  replace HB := Lib.hid (HB.out.trans (hb.mono HB.out.size))
  have B3 := Lib.hid (show Bx4 w25 (w23.heap.size + 1) (.int .u8 16) (.string ⟨#[63, 65]⟩) (.slice (some ⟨w23.heap.size, 0, none⟩) 2 2) (.slice none 0 0) from by rw [← hX]; have h := Bx4.new w24 (.int .u8 16) (.string ⟨#[63, 65]⟩) (.slice (some ⟨w23.heap.size, 0, none⟩) 2 2) (.slice none 0 0) 25; rw [hs4] at h; exact h)
  clear hX hb hc ho hs4
  have HS := Lib.hid (show ∀ w' : World, Bx4 w' (w18.heap.size) (.int .u8 4) (.string ⟨#[]⟩) (.slice none 0 0) (.slice (some ⟨w5.heap.size, 0, none⟩) 2 2) → Bx4 w' (w18.heap.size + 1) (.int .u8 6) (.string ⟨#[]⟩) (.slice none 0 0) (.slice (some ⟨w9.heap.size, 0, none⟩) 2 2) → Bx4 w' (w18.heap.size + 1 + 1) (.int .u8 7) (.string ⟨#[]⟩) (.slice none 0 0) (.slice (some ⟨w16.heap.size, 0, none⟩) 2 2) → Bx4 w' (w23.heap.size + 1) (.int .u8 16) (.string ⟨#[63, 65]⟩) (.slice (some ⟨w23.heap.size, 0, none⟩) 2 2) (.slice none 0 0) → (fun w' => w'.cell? ⟨w18.heap.size, 0, none⟩ = some (.int .u8 4) ∧ w'.cell? ⟨w18.heap.size, 1, none⟩ = some (.string ⟨#[]⟩) ∧ w'.cell? ⟨w18.heap.size, 2, none⟩ = some (.slice none 0 0) ∧ w'.cell? ⟨w18.heap.size, 3, none⟩ = some (.slice (some ⟨w5.heap.size, 0, none⟩) 2 2) ∧ w'.cell? ⟨w18.heap.size + 1, 0, none⟩ = some (.int .u8 6) ∧ w'.cell? ⟨w18.heap.size + 1, 1, none⟩ = some (.string ⟨#[]⟩) ∧ w'.cell? ⟨w18.heap.size + 1, 2, none⟩ = some (.slice none 0 0) ∧ w'.cell? ⟨w18.heap.size + 1, 3, none⟩ = some (.slice (some ⟨w9.heap.size, 0, none⟩) 2 2) ∧ w'.cell? ⟨w18.heap.size + 1 + 1, 0, none⟩ = some (.int .u8 7) ∧ w'.cell? ⟨w18.heap.size + 1 + 1, 1, none⟩ = some (.string ⟨#[]⟩) ∧ w'.cell? ⟨w18.heap.size + 1 + 1, 2, none⟩ = some (.slice none 0 0) ∧ w'.cell? ⟨w18.heap.size + 1 + 1, 3, none⟩ = some (.slice (some ⟨w16.heap.size, 0, none⟩) 2 2) ∧ w'.cell? ⟨w23.heap.size + 1, 0, none⟩ = some (.int .u8 16) ∧ w'.cell? ⟨w23.heap.size + 1, 1, none⟩ = some (.string ⟨#[63, 65]⟩) ∧ w'.cell? ⟨w23.heap.size + 1, 2, none⟩ = some (.slice (some ⟨w23.heap.size, 0, none⟩) 2 2) ∧ w'.cell? ⟨w23.heap.size + 1, 3, none⟩ = some (.slice none 0 0)) w' from fun w' h0 h1 h2 h3 => ⟨h0.c0, h0.c1, h0.c2, h0.c3, h1.c0, h1.c1, h1.c2, h1.c3, h2.c0, h2.c1, h2.c2, h2.c3, h3.c0, h3.c1, h3.c2, h3.c3⟩)
  have hb : Below w25.heap.size w25 w25.drew := Below.drew (Below.refl _ _)
  generalize hwd : w25.drew = w26 at hb
  replace F2 := Lib.hid (F2.out.below hb)
  replace F3 := Lib.hid (F3.out.below hb)
  replace F5 := Lib.hid (F5.out.below hb)
  replace B0 := Lib.hid (B0.out.below hb)
  replace B1 := Lib.hid (B1.out.below hb)
  replace B2 := Lib.hid (B2.out.below hb)
  replace F6 := Lib.hid (F6.out.below hb)
  replace B3 := Lib.hid (B3.out.below hb)
  replace HB := Lib.hid (HB.out.trans (hb.mono HB.out.size))
  clear hb
  refine wp_region_SP (fun c w' => False) (fun c a' w' hd h => h.elim) (fun w' => w'.cell? ⟨w18.heap.size, 0, none⟩ = some (.int .u8 4) ∧ w'.cell? ⟨w18.heap.size, 1, none⟩ = some (.string ⟨#[]⟩) ∧ w'.cell? ⟨w18.heap.size, 2, none⟩ = some (.slice none 0 0) ∧ w'.cell? ⟨w18.heap.size, 3, none⟩ = some (.slice (some ⟨w5.heap.size, 0, none⟩) 2 2) ∧ w'.cell? ⟨w18.heap.size + 1, 0, none⟩ = some (.int .u8 6) ∧ w'.cell? ⟨w18.heap.size + 1, 1, none⟩ = some (.string ⟨#[]⟩) ∧ w'.cell? ⟨w18.heap.size + 1, 2, none⟩ = some (.slice none 0 0) ∧ w'.cell? ⟨w18.heap.size + 1, 3, none⟩ = some (.slice (some ⟨w9.heap.size, 0, none⟩) 2 2) ∧ w'.cell? ⟨w18.heap.size + 1 + 1, 0, none⟩ = some (.int .u8 7) ∧ w'.cell? ⟨w18.heap.size + 1 + 1, 1, none⟩ = some (.string ⟨#[]⟩) ∧ w'.cell? ⟨w18.heap.size + 1 + 1, 2, none⟩ = some (.slice none 0 0) ∧ w'.cell? ⟨w18.heap.size + 1 + 1, 3, none⟩ = some (.slice (some ⟨w16.heap.size, 0, none⟩) 2 2) ∧ w'.cell? ⟨w23.heap.size + 1, 0, none⟩ = some (.int .u8 16) ∧ w'.cell? ⟨w23.heap.size + 1, 1, none⟩ = some (.string ⟨#[63, 65]⟩) ∧ w'.cell? ⟨w23.heap.size + 1, 2, none⟩ = some (.slice (some ⟨w23.heap.size, 0, none⟩) 2 2) ∧ w'.cell? ⟨w23.heap.size + 1, 3, none⟩ = some (.slice none 0 0)) [] 54 #[false, false, false, false, false, false, false, false, false, false, false, false, false, false, false, false, false, false, false, false, false, false, false, false, false, false, false, false, false, false, false, false, false, false, false, false, false, false, false, false, false, false, false, false, false, false, false, false, false, false, false, false, false, false] (by kernel_rfl) (by kernel_rfl) (by kernel_rfl) (by rw [hwd]; exact HS.out _ B0.out B1.out B2.out B3.out) (fun hHeld => ?_)
  rw [hwd] at hHeld ⊢
  clear hwd
  refine wpAnyS_take (i := 0) (oi := ⟨some 34, _, _, _, _, _⟩) (v := .agg #[.int .u8 4, .string ⟨#[]⟩, .slice none 0 0, .slice (some ⟨w5.heap.size, 0, none⟩) 2 2]) rfl (by kernel_rfl) (by kernel_rfl) (by kernel_rfl) (by kernel_rfl) (fun _ _ _ h => Both.panic h) (Or.inl ⟨by rfl, ?_⟩) (by assumption) ?_
  · intro w' hSw
    obtain ⟨k0', k1', k2', k3', k4', k5', k6', k7', k8', k9', k10', k11', k12', k13', k14', k15'⟩ := hSw
    go_simp
  simp only [Act.put, List.setIfInBounds_toArray, List.set_cons_zero, List.set_cons_succ]
  refine wpAnyS_take (i := 4) (oi := ⟨some 38, _, _, _, _, _⟩) (v := .agg #[.int .u8 6, .string ⟨#[]⟩, .slice none 0 0, .slice (some ⟨w9.heap.size, 0, none⟩) 2 2]) rfl (by kernel_rfl) (by kernel_rfl) (by kernel_rfl) (by kernel_rfl) (fun _ _ _ h => Both.panic h) (Or.inl ⟨by rfl, ?_⟩) (by assumption) ?_
  · intro w' hSw
    obtain ⟨k0', k1', k2', k3', k4', k5', k6', k7', k8', k9', k10', k11', k12', k13', k14', k15'⟩ := hSw
    go_simp
  simp only [Act.put, List.setIfInBounds_toArray, List.set_cons_zero, List.set_cons_succ]
  refine wpAnyS_one (i := 1) (oi := ⟨some 35, _, _, _, _, _⟩) rfl (by kernel_rfl) (by rfl) (fun K hK => ?_)
  clear hHeld
  go_simp
  refine (p_c ⟨#[83]⟩ none 0 0 _).mono ?_
  rintro e w27 ⟨rfl, hb⟩
  replace F2 := Lib.hid (F2.out.below hb)
  replace F3 := Lib.hid (F3.out.below hb)
  replace F5 := Lib.hid (F5.out.below hb)
  replace B0 := Lib.hid (B0.out.below hb)
  replace B1 := Lib.hid (B1.out.below hb)
  replace B2 := Lib.hid (B2.out.below hb)
  replace F6 := Lib.hid (F6.out.below hb)
  replace B3 := Lib.hid (B3.out.below hb)
  replace HB := Lib.hid (HB.out.trans (hb.mono HB.out.size))
  clear hb
  have hHeld := HS.out _ B0.out B1.out B2.out B3.out
  refine hK _ _ (fun _ => hHeld) ?_
  clear hK K
  simp only [Act.put, List.setIfInBounds_toArray, List.set_cons_zero, List.set_cons_succ]
  refine wpAnyS_one (i := 2) (oi := ⟨some 36, _, _, _, _, _⟩) rfl (by kernel_rfl) (by rfl) (fun K hK => ?_)
  clear hHeld
  go_simp
  generalize hX : w27.alloc (.cells #[.int .u8 4, .string ⟨#[]⟩, .slice none 0 0, .slice (some ⟨w5.heap.size, 0, none⟩) 2 2, .int .u8 1, .string ⟨#[83]⟩, .slice none 0 0, .slice none 0 0] 25) = w28
  have hb : Below w27.heap.size w27 w28 := by rw [← hX]; exact (Below.refl _ _).alloc (Nat.le_refl _) _
  have hc : ∀ j u, [Value.int .u8 4, .string ⟨#[]⟩, .slice none 0 0, .slice (some ⟨w5.heap.size, 0, none⟩) 2 2, .int .u8 1, .string ⟨#[83]⟩, .slice none 0 0, .slice none 0 0][j]? = some u → w28.cell? ⟨w27.heap.size, j, none⟩ = some u := fun j u hj => by rw [← hX, World.cell?_alloc_at _ _ _ _ rfl, ← hj]; simp
  have ho : Own W.heap.size w28 w27.heap.size := ⟨HB.out.size, by rw [← hX]; simp⟩
  replace F2 := Lib.hid (F2.out.below hb)
  replace F3 := Lib.hid (F3.out.below hb)
  replace F5 := Lib.hid (F5.out.below hb)
  replace B0 := Lib.hid (B0.out.below hb)
  replace B1 := Lib.hid (B1.out.below hb)
  replace B2 := Lib.hid (B2.out.below hb)
  replace F6 := Lib.hid (F6.out.below hb)
  replace B3 := Lib.hid (B3.out.below hb)
  replace HB := Lib.hid (HB.out.trans (hb.mono HB.out.size))
  have F7 := Lib.hid (show FVal W.heap.size w28 (.agg #[.int .u8 5, .string ⟨#[]⟩, .slice none 0 0, .slice (some ⟨w27.heap.size, 0, none⟩) 2 2]) (.mk 5 ⟨#[]⟩ [] [(.mk 4 ⟨#[]⟩ [] [(.mk 4 ⟨#[]⟩ [] [(.mk 1 ⟨#[80]⟩ [] []), (.mk 1 ⟨#[81]⟩ [] [])]), (.mk 1 ⟨#[82]⟩ [] [])]), (.mk 1 ⟨#[83]⟩ [] [])]) from fval_of2 5 ⟨#[]⟩ (by omega) (ok_str (by decide)) ho F2.out (fval_leaf 1 ⟨#[83]⟩ (by omega) (ok_str (by decide))) hc)
  clear F2
  clear hX hb hc ho
  have hHeld := HS.out _ B0.out B1.out B2.out B3.out
  refine hK _ _ (fun _ => hHeld) ?_
  clear hK K
  simp only [Act.put, List.setIfInBounds_toArray, List.set_cons_zero, List.set_cons_succ]
  refine wpAnyS_one (i := 3) (oi := ⟨some 37, _, _, _, _, _⟩) rfl (by kernel_rfl) (by rfl) (fun K hK => ?_)
  clear hHeld
  go_simp
  refine (of_c 5 ⟨#[]⟩ (some ⟨w27.heap.size, 0, none⟩) 2 2 _).mono ?_
  rintro e w29 ⟨rfl, hb⟩
  replace F3 := Lib.hid (F3.out.below hb)
  replace F5 := Lib.hid (F5.out.below hb)
  replace B0 := Lib.hid (B0.out.below hb)
  replace B1 := Lib.hid (B1.out.below hb)
  replace B2 := Lib.hid (B2.out.below hb)
  replace F6 := Lib.hid (F6.out.below hb)
  replace B3 := Lib.hid (B3.out.below hb)
  replace F7 := Lib.hid (F7.out.below hb)
  replace HB := Lib.hid (HB.out.trans (hb.mono HB.out.size))
  clear hb
  have hHeld := HS.out _ B0.out B1.out B2.out B3.out
  refine hK _ _ (fun _ => hHeld) ?_
  clear hK K
  simp only [Act.put, List.setIfInBounds_toArray, List.set_cons_zero, List.set_cons_succ]
  refine wpAnyS_one (i := 5) (oi := ⟨some 39, _, _, _, _, _⟩) rfl (by kernel_rfl) (by rfl) (fun K hK => ?_)
  clear hHeld
  go_simp
  generalize hX : w29.alloc (.cells #[.int .u8 5, .string ⟨#[]⟩, .slice none 0 0, .slice (some ⟨w27.heap.size, 0, none⟩) 2 2, .int .u8 6, .string ⟨#[]⟩, .slice none 0 0, .slice (some ⟨w9.heap.size, 0, none⟩) 2 2] 25) = w30
  have hb : Below w29.heap.size w29 w30 := by rw [← hX]; exact (Below.refl _ _).alloc (Nat.le_refl _) _
  have hc : ∀ j u, [Value.int .u8 5, .string ⟨#[]⟩, .slice none 0 0, .slice (some ⟨w27.heap.size, 0, none⟩) 2 2, .int .u8 6, .string ⟨#[]⟩, .slice none 0 0, .slice (some ⟨w9.heap.size, 0, none⟩) 2 2][j]? = some u → w30.cell? ⟨w29.heap.size, j, none⟩ = some u := fun j u hj => by rw [← hX, World.cell?_alloc_at _ _ _ _ rfl, ← hj]; simp
  have ho : Own W.heap.size w30 w29.heap.size := ⟨HB.out.size, by rw [← hX]; simp⟩
  replace F3 := Lib.hid (F3.out.below hb)
  replace F5 := Lib.hid (F5.out.below hb)
  replace B0 := Lib.hid (B0.out.below hb)
  replace B1 := Lib.hid (B1.out.below hb)
  replace B2 := Lib.hid (B2.out.below hb)
  replace F6 := Lib.hid (F6.out.below hb)
  replace B3 := Lib.hid (B3.out.below hb)
  replace F7 := Lib.hid (F7.out.below hb)
  replace HB := Lib.hid (HB.out.trans (hb.mono HB.out.size))
  have F8 := Lib.hid (show FVal W.heap.size w30 (.agg #[.int .u8 6, .string ⟨#[]⟩, .slice none 0 0, .slice (some ⟨w29.heap.size, 0, none⟩) 2 2]) (.mk 6 ⟨#[]⟩ [] [(.mk 5 ⟨#[]⟩ [] [(.mk 4 ⟨#[]⟩ [] [(.mk 4 ⟨#[]⟩ [] [(.mk 1 ⟨#[80]⟩ [] []), (.mk 1 ⟨#[81]⟩ [] [])]), (.mk 1 ⟨#[82]⟩ [] [])]), (.mk 1 ⟨#[83]⟩ [] [])]), (.mk 6 ⟨#[]⟩ [] [(.mk 1 ⟨#[84]⟩ [] []), (.mk 1 ⟨#[85, 49]⟩ [] [])])]) from fval_of2 6 ⟨#[]⟩ (by omega) (ok_str (by decide)) ho F7.out F3.out hc)
  clear F7
  clear F3
  clear hX hb hc ho
  have hHeld := HS.out _ B0.out B1.out B2.out B3.out
  refine hK _ _ (fun _ => hHeld) ?_
  clear hK K
  simp only [Act.put, List.setIfInBounds_toArray, List.set_cons_zero, List.set_cons_succ]
  refine wpAnyS_one (i := 6) (oi := ⟨some 40, _, _, _, _, _⟩) rfl (by kernel_rfl) (by rfl) (fun K hK => ?_)
  clear hHeld
  go_simp
  refine (of_c 6 ⟨#[]⟩ (some ⟨w29.heap.size, 0, none⟩) 2 2 _).mono ?_
  rintro e w31 ⟨rfl, hb⟩
  replace F5 := Lib.hid (F5.out.below hb)
  replace B0 := Lib.hid (B0.out.below hb)
  replace B1 := Lib.hid (B1.out.below hb)
  replace B2 := Lib.hid (B2.out.below hb)
  replace F6 := Lib.hid (F6.out.below hb)
  replace B3 := Lib.hid (B3.out.below hb)
  replace F8 := Lib.hid (F8.out.below hb)
  replace HB := Lib.hid (HB.out.trans (hb.mono HB.out.size))
  clear hb
  have hHeld := HS.out _ B0.out B1.out B2.out B3.out
  refine hK _ _ (fun _ => hHeld) ?_
  clear hK K
  simp only [Act.put, List.setIfInBounds_toArray, List.set_cons_zero, List.set_cons_succ]
  refine wpAnyS_one (i := 7) (oi := ⟨some 41, _, _, _, _, _⟩) rfl (by kernel_rfl) (by rfl) (fun K hK => ?_)
  clear hHeld
  go_simp
  refine (means_true ⟨#[80, 32, 38, 32, 81, 32, 38, 32, 82, 32, 124, 32, 83, 32, 45, 62, 32, 84, 32, 45, 62, 32, 85, 49]⟩ _ (by decide) (HT.out.below HB.out HT.out.1) ⟨Nat.lt_of_lt_of_le HL.out.1 HB.out.size, (HL.out.keep (HB.out.block _ HL.out.1)).2⟩ ex0 _ _ _ _ (fval_fov F8.out) ex0_m ex0_e).mono ?_
  rintro e w32 ⟨rfl, hb⟩
  replace F5 := Lib.hid (F5.out.below hb)
  replace B0 := Lib.hid (B0.out.below hb)
  replace B1 := Lib.hid (B1.out.below hb)
  replace B2 := Lib.hid (B2.out.below hb)
  replace F6 := Lib.hid (F6.out.below hb)
  replace B3 := Lib.hid (B3.out.below hb)
  replace F8 := Lib.hid (F8.out.below hb)
  replace HB := Lib.hid (HB.out.trans (hb.mono HB.out.size))
  clear hb
  have hHeld := HS.out _ B0.out B1.out B2.out B3.out
  refine hK _ _ (fun _ => hHeld) ?_
  clear hK K
  simp only [Act.put, List.setIfInBounds_toArray, List.set_cons_zero, List.set_cons_succ]
  clear F8
  refine wpAnyS_take (i := 8) (oi := ⟨some 42, _, _, _, _, _⟩) (v := .bool false) rfl (by kernel_rfl) (by kernel_rfl) (by kernel_rfl) (by kernel_rfl) (fun _ _ _ h => Both.panic h) (Or.inl ⟨by rfl, ?_⟩) (by assumption) ?_
  · intro w' hSw
    obtain ⟨k0', k1', k2', k3', k4', k5', k6', k7', k8', k9', k10', k11', k12', k13', k14', k15'⟩ := hSw
    go_simp
  simp only [Act.put, List.setIfInBounds_toArray, List.set_cons_zero, List.set_cons_succ]
  refine wpAnyS_take (i := 9) (oi := ⟨some 43, _, _, _, _, _⟩) (v := .bool false) rfl (by kernel_rfl) (by kernel_rfl) (by kernel_rfl) (by kernel_rfl) (fun _ _ _ h => Both.panic h) (Or.inl ⟨by rfl, ?_⟩) (by assumption) ?_
  · intro w' hSw
    obtain ⟨k0', k1', k2', k3', k4', k5', k6', k7', k8', k9', k10', k11', k12', k13', k14', k15'⟩ := hSw
    go_simp
  simp only [Act.put, List.setIfInBounds_toArray, List.set_cons_zero, List.set_cons_succ]
  refine wpAnyS_one (i := 10) (oi := ⟨some 44, _, _, _, _, _⟩) rfl (by kernel_rfl) (by rfl) (fun K hK => ?_)
  clear hHeld
  go_simp
  refine (v_c ⟨#[120]⟩ _).mono ?_
  rintro e w33 ⟨rfl, hb⟩
  replace F5 := Lib.hid (F5.out.below hb)
  replace B0 := Lib.hid (B0.out.below hb)
  replace B1 := Lib.hid (B1.out.below hb)
  replace B2 := Lib.hid (B2.out.below hb)
  replace F6 := Lib.hid (F6.out.below hb)
  replace B3 := Lib.hid (B3.out.below hb)
  replace HB := Lib.hid (HB.out.trans (hb.mono HB.out.size))
  clear hb
  have hHeld := HS.out _ B0.out B1.out B2.out B3.out
  refine hK _ _ (fun _ => hHeld) ?_
  clear hK K
  simp only [Act.put, List.setIfInBounds_toArray, List.set_cons_zero, List.set_cons_succ]
  refine wpAnyS_one (i := 11) (oi := ⟨some 45, _, _, _, _, _⟩) rfl (by kernel_rfl) (by rfl) (fun K hK => ?_)
  clear hHeld
  go_simp
  generalize hX : w33.alloc (.cells #[.bool true, .string ⟨#[120]⟩, .slice none 0 0] 44) = w34
  have hb : Below w33.heap.size w33 w34 := by rw [← hX]; exact (Below.refl _ _).alloc (Nat.le_refl _) _
  have hc : ∀ j u, [Value.bool true, .string ⟨#[120]⟩, .slice none 0 0][j]? = some u → w34.cell? ⟨w33.heap.size, j, none⟩ = some u := fun j u hj => by rw [← hX, World.cell?_alloc_at _ _ _ _ rfl, ← hj]; simp
  have ho : Own W.heap.size w34 w33.heap.size := ⟨HB.out.size, by rw [← hX]; simp⟩
  replace F5 := Lib.hid (F5.out.below hb)
  replace B0 := Lib.hid (B0.out.below hb)
  replace B1 := Lib.hid (B1.out.below hb)
  replace B2 := Lib.hid (B2.out.below hb)
  replace F6 := Lib.hid (F6.out.below hb)
  replace B3 := Lib.hid (B3.out.below hb)
  replace HB := Lib.hid (HB.out.trans (hb.mono HB.out.size))
  have F9 := Lib.hid (show FVal W.heap.size w34 (.agg #[.int .u8 1, .string ⟨#[80]⟩, .slice (some ⟨w33.heap.size, 0, none⟩) 1 1, .slice none 0 0]) (.mk 1 ⟨#[80]⟩ [.mk true ⟨#[120]⟩ []] []) from fval_v1 1 ⟨#[80]⟩ ⟨#[120]⟩ (by omega) (ok_str (by decide)) (ok_str (by decide)) ho hc)
  clear hX hb hc ho
  have hHeld := HS.out _ B0.out B1.out B2.out B3.out
  refine hK _ _ (fun _ => hHeld) ?_
  clear hK K
  simp only [Act.put, List.setIfInBounds_toArray, List.set_cons_zero, List.set_cons_succ]
  refine wpAnyS_one (i := 12) (oi := ⟨some 46, _, _, _, _, _⟩) rfl (by kernel_rfl) (by rfl) (fun K hK => ?_)
  clear hHeld
  go_simp
  refine (p_c ⟨#[80]⟩ (some ⟨w33.heap.size, 0, none⟩) 1 1 _).mono ?_
  rintro e w35 ⟨rfl, hb⟩
  replace F5 := Lib.hid (F5.out.below hb)
  replace B0 := Lib.hid (B0.out.below hb)
  replace B1 := Lib.hid (B1.out.below hb)
  replace B2 := Lib.hid (B2.out.below hb)
  replace F6 := Lib.hid (F6.out.below hb)
  replace B3 := Lib.hid (B3.out.below hb)
  replace F9 := Lib.hid (F9.out.below hb)
  replace HB := Lib.hid (HB.out.trans (hb.mono HB.out.size))
  clear hb
  have hHeld := HS.out _ B0.out B1.out B2.out B3.out
  refine hK _ _ (fun _ => hHeld) ?_
  clear hK K
  simp only [Act.put, List.setIfInBounds_toArray, List.set_cons_zero, List.set_cons_succ]
  refine wpAnyS_one (i := 13) (oi := ⟨some 47, _, _, _, _, _⟩) rfl (by kernel_rfl) (by rfl) (fun K hK => ?_)
  clear hHeld
  go_simp
  generalize hX : w35.alloc (.cells #[.int .u8 1, .string ⟨#[80]⟩, .slice (some ⟨w33.heap.size, 0, none⟩) 1 1, .slice none 0 0] 25) = w36
  have hb : Below w35.heap.size w35 w36 := by rw [← hX]; exact (Below.refl _ _).alloc (Nat.le_refl _) _
  have hc : ∀ j u, [Value.int .u8 1, .string ⟨#[80]⟩, .slice (some ⟨w33.heap.size, 0, none⟩) 1 1, .slice none 0 0][j]? = some u → w36.cell? ⟨w35.heap.size, j, none⟩ = some u := fun j u hj => by rw [← hX, World.cell?_alloc_at _ _ _ _ rfl, ← hj]; simp
  have ho : Own W.heap.size w36 w35.heap.size := ⟨HB.out.size, by rw [← hX]; simp⟩
  replace F5 := Lib.hid (F5.out.below hb)
  replace B0 := Lib.hid (B0.out.below hb)
  replace B1 := Lib.hid (B1.out.below hb)
  replace B2 := Lib.hid (B2.out.below hb)
  replace F6 := Lib.hid (F6.out.below hb)
  replace B3 := Lib.hid (B3.out.below hb)
  replace F9 := Lib.hid (F9.out.below hb)
  replace HB := Lib.hid (HB.out.trans (hb.mono HB.out.size))
  have F10 := Lib.hid (show FVal W.heap.size w36 (.agg #[.int .u8 8, .string ⟨#[120]⟩, .slice none 0 0, .slice (some ⟨w35.heap.size, 0, none⟩) 1 1]) (.mk 8 ⟨#[120]⟩ [] [(.mk 1 ⟨#[80]⟩ [.mk true ⟨#[120]⟩ []] [])]) from fval_of1 8 ⟨#[120]⟩ (by omega) (ok_str (by decide)) ho F9.out hc)
  clear F9
  clear hX hb hc ho
  have hHeld := HS.out _ B0.out B1.out B2.out B3.out
  refine hK _ _ (fun _ => hHeld) ?_
  clear hK K
  simp only [Act.put, List.setIfInBounds_toArray, List.set_cons_zero, List.set_cons_succ]
  refine wpAnyS_one (i := 14) (oi := ⟨some 48, _, _, _, _, _⟩) rfl (by kernel_rfl) (by rfl) (fun K hK => ?_)
  clear hHeld
  go_simp
  refine (of_c 8 ⟨#[120]⟩ (some ⟨w35.heap.size, 0, none⟩) 1 1 _).mono ?_
  rintro e w37 ⟨rfl, hb⟩
  replace F5 := Lib.hid (F5.out.below hb)
  replace B0 := Lib.hid (B0.out.below hb)
  replace B1 := Lib.hid (B1.out.below hb)
  replace B2 := Lib.hid (B2.out.below hb)
  replace F6 := Lib.hid (F6.out.below hb)
  replace B3 := Lib.hid (B3.out.below hb)
  replace F10 := Lib.hid (F10.out.below hb)
  replace HB := Lib.hid (HB.out.trans (hb.mono HB.out.size))
  clear hb
  have hHeld := HS.out _ B0.out B1.out B2.out B3.out
  refine hK _ _ (fun _ => hHeld) ?_
  clear hK K
  simp only [Act.put, List.setIfInBounds_toArray, List.set_cons_zero, List.set_cons_succ]
  refine wpAnyS_one (i := 15) (oi := ⟨some 49, _, _, _, _, _⟩) rfl (by kernel_rfl) (by rfl) (fun K hK => ?_)
  clear hHeld
  go_simp
  refine (p_c ⟨#[81]⟩ none 0 0 _).mono ?_
  rintro e w38 ⟨rfl, hb⟩
  replace F5 := Lib.hid (F5.out.below hb)
  replace B0 := Lib.hid (B0.out.below hb)
  replace B1 := Lib.hid (B1.out.below hb)
  replace B2 := Lib.hid (B2.out.below hb)
  replace F6 := Lib.hid (F6.out.below hb)
  replace B3 := Lib.hid (B3.out.below hb)
  replace F10 := Lib.hid (F10.out.below hb)
  replace HB := Lib.hid (HB.out.trans (hb.mono HB.out.size))
  clear hb
  have hHeld := HS.out _ B0.out B1.out B2.out B3.out
  refine hK _ _ (fun _ => hHeld) ?_
  clear hK K
  simp only [Act.put, List.setIfInBounds_toArray, List.set_cons_zero, List.set_cons_succ]
  refine wpAnyS_one (i := 16) (oi := ⟨some 50, _, _, _, _, _⟩) rfl (by kernel_rfl) (by rfl) (fun K hK => ?_)
  clear hHeld
  go_simp
  generalize hX : w38.alloc (.cells #[.int .u8 8, .string ⟨#[120]⟩, .slice none 0 0, .slice (some ⟨w35.heap.size, 0, none⟩) 1 1, .int .u8 1, .string ⟨#[81]⟩, .slice none 0 0, .slice none 0 0] 25) = w39
  have hb : Below w38.heap.size w38 w39 := by rw [← hX]; exact (Below.refl _ _).alloc (Nat.le_refl _) _
  have hc : ∀ j u, [Value.int .u8 8, .string ⟨#[120]⟩, .slice none 0 0, .slice (some ⟨w35.heap.size, 0, none⟩) 1 1, .int .u8 1, .string ⟨#[81]⟩, .slice none 0 0, .slice none 0 0][j]? = some u → w39.cell? ⟨w38.heap.size, j, none⟩ = some u := fun j u hj => by rw [← hX, World.cell?_alloc_at _ _ _ _ rfl, ← hj]; simp
  have ho : Own W.heap.size w39 w38.heap.size := ⟨HB.out.size, by rw [← hX]; simp⟩
  replace F5 := Lib.hid (F5.out.below hb)
  replace B0 := Lib.hid (B0.out.below hb)
  replace B1 := Lib.hid (B1.out.below hb)
  replace B2 := Lib.hid (B2.out.below hb)
  replace F6 := Lib.hid (F6.out.below hb)
  replace B3 := Lib.hid (B3.out.below hb)
  replace F10 := Lib.hid (F10.out.below hb)
  replace HB := Lib.hid (HB.out.trans (hb.mono HB.out.size))
  have F11 := Lib.hid (show FVal W.heap.size w39 (.agg #[.int .u8 4, .string ⟨#[]⟩, .slice none 0 0, .slice (some ⟨w38.heap.size, 0, none⟩) 2 2]) (.mk 4 ⟨#[]⟩ [] [(.mk 8 ⟨#[120]⟩ [] [(.mk 1 ⟨#[80]⟩ [.mk true ⟨#[120]⟩ []] [])]), (.mk 1 ⟨#[81]⟩ [] [])]) from fval_of2 4 ⟨#[]⟩ (by omega) (ok_str (by decide)) ho F10.out (fval_leaf 1 ⟨#[81]⟩ (by omega) (ok_str (by decide))) hc)
  clear F10
  clear hX hb hc ho
  have hHeld := HS.out _ B0.out B1.out B2.out B3.out
  refine hK _ _ (fun _ => hHeld) ?_
  clear hK K
  simp only [Act.put, List.setIfInBounds_toArray, List.set_cons_zero, List.set_cons_succ]
  refine wpAnyS_one (i := 17) (oi := ⟨some 51, _, _, _, _, _⟩) rfl (by kernel_rfl) (by rfl) (fun K hK => ?_)
  clear hHeld
  go_simp
  refine (of_c 4 ⟨#[]⟩ (some ⟨w38.heap.size, 0, none⟩) 2 2 _).mono ?_
  rintro e w40 ⟨rfl, hb⟩
  replace F5 := Lib.hid (F5.out.below hb)
  replace B0 := Lib.hid (B0.out.below hb)
  replace B1 := Lib.hid (B1.out.below hb)
  replace B2 := Lib.hid (B2.out.below hb)
  replace F6 := Lib.hid (F6.out.below hb)
  replace B3 := Lib.hid (B3.out.below hb)
  replace F11 := Lib.hid (F11.out.below hb)
  replace HB := Lib.hid (HB.out.trans (hb.mono HB.out.size))
  clear hb
  have hHeld := HS.out _ B0.out B1.out B2.out B3.out
  refine hK _ _ (fun _ => hHeld) ?_
  clear hK K
  simp only [Act.put, List.setIfInBounds_toArray, List.set_cons_zero, List.set_cons_succ]
  refine wpAnyS_one (i := 18) (oi := ⟨some 52, _, _, _, _, _⟩) rfl (by kernel_rfl) (by rfl) (fun K hK => ?_)
  clear hHeld
  go_simp
  refine (means_true ⟨#[97, 108, 108, 32, 120, 32, 80, 40, 120, 41, 32, 38, 32, 81]⟩ _ (by decide) (HT.out.below HB.out HT.out.1) ⟨Nat.lt_of_lt_of_le HL.out.1 HB.out.size, (HL.out.keep (HB.out.block _ HL.out.1)).2⟩ ex1 _ _ _ _ (fval_fov F11.out) ex1_m ex1_e).mono ?_
  rintro e w41 ⟨rfl, hb⟩
  replace F5 := Lib.hid (F5.out.below hb)
  replace B0 := Lib.hid (B0.out.below hb)
  replace B1 := Lib.hid (B1.out.below hb)
  replace B2 := Lib.hid (B2.out.below hb)
  replace F6 := Lib.hid (F6.out.below hb)
  replace B3 := Lib.hid (B3.out.below hb)
  replace F11 := Lib.hid (F11.out.below hb)
  replace HB := Lib.hid (HB.out.trans (hb.mono HB.out.size))
  clear hb
  have hHeld := HS.out _ B0.out B1.out B2.out B3.out
  refine hK _ _ (fun _ => hHeld) ?_
  clear hK K
  simp only [Act.put, List.setIfInBounds_toArray, List.set_cons_zero, List.set_cons_succ]
  clear F11
  refine wpAnyS_take (i := 19) (oi := ⟨some 53, _, _, _, _, _⟩) (v := .bool false) rfl (by kernel_rfl) (by kernel_rfl) (by kernel_rfl) (by kernel_rfl) (fun _ _ _ h => Both.panic h) (Or.inl ⟨by rfl, ?_⟩) (by assumption) ?_
  · intro w' hSw
    obtain ⟨k0', k1', k2', k3', k4', k5', k6', k7', k8', k9', k10', k11', k12', k13', k14', k15'⟩ := hSw
    go_simp
  simp only [Act.put, List.setIfInBounds_toArray, List.set_cons_zero, List.set_cons_succ]
  refine wpAnyS_take (i := 20) (oi := ⟨some 54, _, _, _, _, _⟩) (v := .bool false) rfl (by kernel_rfl) (by kernel_rfl) (by kernel_rfl) (by kernel_rfl) (fun _ _ _ h => Both.panic h) (Or.inl ⟨by rfl, ?_⟩) (by assumption) ?_
  · intro w' hSw
    obtain ⟨k0', k1', k2', k3', k4', k5', k6', k7', k8', k9', k10', k11', k12', k13', k14', k15'⟩ := hSw
    go_simp
  simp only [Act.put, List.setIfInBounds_toArray, List.set_cons_zero, List.set_cons_succ]
  refine wpAnyS_take (i := 21) (oi := ⟨some 55, _, _, _, _, _⟩) (v := .bool false) rfl (by kernel_rfl) (by kernel_rfl) (by kernel_rfl) (by kernel_rfl) (fun _ _ _ h => Both.panic h) (Or.inl ⟨by rfl, ?_⟩) (by assumption) ?_
  · intro w' hSw
    obtain ⟨k0', k1', k2', k3', k4', k5', k6', k7', k8', k9', k10', k11', k12', k13', k14', k15'⟩ := hSw
    go_simp
  simp only [Act.put, List.setIfInBounds_toArray, List.set_cons_zero, List.set_cons_succ]
  refine wpAnyS_one (i := 22) (oi := ⟨some 56, _, _, _, _, _⟩) rfl (by kernel_rfl) (by rfl) (fun K hK => ?_)
  clear hHeld
  go_simp
  refine (p_c ⟨#[80]⟩ none 0 0 _).mono ?_
  rintro e w42 ⟨rfl, hb⟩
  replace F5 := Lib.hid (F5.out.below hb)
  replace B0 := Lib.hid (B0.out.below hb)
  replace B1 := Lib.hid (B1.out.below hb)
  replace B2 := Lib.hid (B2.out.below hb)
  replace F6 := Lib.hid (F6.out.below hb)
  replace B3 := Lib.hid (B3.out.below hb)
  replace HB := Lib.hid (HB.out.trans (hb.mono HB.out.size))
  clear hb
  have hHeld := HS.out _ B0.out B1.out B2.out B3.out
  refine hK _ _ (fun _ => hHeld) ?_
  clear hK K
  simp only [Act.put, List.setIfInBounds_toArray, List.set_cons_zero, List.set_cons_succ]
  refine wpAnyS_one (i := 23) (oi := ⟨some 57, _, _, _, _, _⟩) rfl (by kernel_rfl) (by rfl) (fun K hK => ?_)
  clear hHeld
  go_simp
  generalize hX : w42.alloc (.cells #[.int .u8 1, .string ⟨#[80]⟩, .slice none 0 0, .slice none 0 0] 25) = w43
  have hb : Below w42.heap.size w42 w43 := by rw [← hX]; exact (Below.refl _ _).alloc (Nat.le_refl _) _
  have hc : ∀ j u, [Value.int .u8 1, .string ⟨#[80]⟩, .slice none 0 0, .slice none 0 0][j]? = some u → w43.cell? ⟨w42.heap.size, j, none⟩ = some u := fun j u hj => by rw [← hX, World.cell?_alloc_at _ _ _ _ rfl, ← hj]; simp
  have ho : Own W.heap.size w43 w42.heap.size := ⟨HB.out.size, by rw [← hX]; simp⟩
  replace F5 := Lib.hid (F5.out.below hb)
  replace B0 := Lib.hid (B0.out.below hb)
  replace B1 := Lib.hid (B1.out.below hb)
  replace B2 := Lib.hid (B2.out.below hb)
  replace F6 := Lib.hid (F6.out.below hb)
  replace B3 := Lib.hid (B3.out.below hb)
  replace HB := Lib.hid (HB.out.trans (hb.mono HB.out.size))
  have F12 := Lib.hid (show FVal W.heap.size w43 (.agg #[.int .u8 10, .string ⟨#[]⟩, .slice none 0 0, .slice (some ⟨w42.heap.size, 0, none⟩) 1 1]) (.mk 10 ⟨#[]⟩ [] [(.mk 1 ⟨#[80]⟩ [] [])]) from fval_of1 10 ⟨#[]⟩ (by omega) (ok_str (by decide)) ho (fval_leaf 1 ⟨#[80]⟩ (by omega) (ok_str (by decide))) hc)
  clear hX hb hc ho
  have hHeld := HS.out _ B0.out B1.out B2.out B3.out
  refine hK _ _ (fun _ => hHeld) ?_
  clear hK K
  simp only [Act.put, List.setIfInBounds_toArray, List.set_cons_zero, List.set_cons_succ]
  refine wpAnyS_one (i := 24) (oi := ⟨some 58, _, _, _, _, _⟩) rfl (by kernel_rfl) (by rfl) (fun K hK => ?_)
  clear hHeld
  go_simp
  refine (of_c 10 ⟨#[]⟩ (some ⟨w42.heap.size, 0, none⟩) 1 1 _).mono ?_
  rintro e w44 ⟨rfl, hb⟩
  replace F5 := Lib.hid (F5.out.below hb)
  replace B0 := Lib.hid (B0.out.below hb)
  replace B1 := Lib.hid (B1.out.below hb)
  replace B2 := Lib.hid (B2.out.below hb)
  replace F6 := Lib.hid (F6.out.below hb)
  replace B3 := Lib.hid (B3.out.below hb)
  replace F12 := Lib.hid (F12.out.below hb)
  replace HB := Lib.hid (HB.out.trans (hb.mono HB.out.size))
  clear hb
  have hHeld := HS.out _ B0.out B1.out B2.out B3.out
  refine hK _ _ (fun _ => hHeld) ?_
  clear hK K
  simp only [Act.put, List.setIfInBounds_toArray, List.set_cons_zero, List.set_cons_succ]
  refine wpAnyS_one (i := 25) (oi := ⟨some 59, _, _, _, _, _⟩) rfl (by kernel_rfl) (by rfl) (fun K hK => ?_)
  clear hHeld
  go_simp
  generalize hX : w44.alloc (.cells #[.int .u8 10, .string ⟨#[]⟩, .slice none 0 0, .slice (some ⟨w42.heap.size, 0, none⟩) 1 1] 25) = w45
  have hb : Below w44.heap.size w44 w45 := by rw [← hX]; exact (Below.refl _ _).alloc (Nat.le_refl _) _
  have hc : ∀ j u, [Value.int .u8 10, .string ⟨#[]⟩, .slice none 0 0, .slice (some ⟨w42.heap.size, 0, none⟩) 1 1][j]? = some u → w45.cell? ⟨w44.heap.size, j, none⟩ = some u := fun j u hj => by rw [← hX, World.cell?_alloc_at _ _ _ _ rfl, ← hj]; simp
  have ho : Own W.heap.size w45 w44.heap.size := ⟨HB.out.size, by rw [← hX]; simp⟩
  replace F5 := Lib.hid (F5.out.below hb)
  replace B0 := Lib.hid (B0.out.below hb)
  replace B1 := Lib.hid (B1.out.below hb)
  replace B2 := Lib.hid (B2.out.below hb)
  replace F6 := Lib.hid (F6.out.below hb)
  replace B3 := Lib.hid (B3.out.below hb)
  replace F12 := Lib.hid (F12.out.below hb)
  replace HB := Lib.hid (HB.out.trans (hb.mono HB.out.size))
  have F13 := Lib.hid (show FVal W.heap.size w45 (.agg #[.int .u8 3, .string ⟨#[]⟩, .slice none 0 0, .slice (some ⟨w44.heap.size, 0, none⟩) 1 1]) (.mk 3 ⟨#[]⟩ [] [(.mk 10 ⟨#[]⟩ [] [(.mk 1 ⟨#[80]⟩ [] [])])]) from fval_of1 3 ⟨#[]⟩ (by omega) (ok_str (by decide)) ho F12.out hc)
  clear F12
  clear hX hb hc ho
  have hHeld := HS.out _ B0.out B1.out B2.out B3.out
  refine hK _ _ (fun _ => hHeld) ?_
  clear hK K
  simp only [Act.put, List.setIfInBounds_toArray, List.set_cons_zero, List.set_cons_succ]
  refine wpAnyS_one (i := 26) (oi := ⟨some 60, _, _, _, _, _⟩) rfl (by kernel_rfl) (by rfl) (fun K hK => ?_)
  clear hHeld
  go_simp
  refine (of_c 3 ⟨#[]⟩ (some ⟨w44.heap.size, 0, none⟩) 1 1 _).mono ?_
  rintro e w46 ⟨rfl, hb⟩
  replace F5 := Lib.hid (F5.out.below hb)
  replace B0 := Lib.hid (B0.out.below hb)
  replace B1 := Lib.hid (B1.out.below hb)
  replace B2 := Lib.hid (B2.out.below hb)
  replace F6 := Lib.hid (F6.out.below hb)
  replace B3 := Lib.hid (B3.out.below hb)
  replace F13 := Lib.hid (F13.out.below hb)
  replace HB := Lib.hid (HB.out.trans (hb.mono HB.out.size))
  clear hb
  have hHeld := HS.out _ B0.out B1.out B2.out B3.out
  refine hK _ _ (fun _ => hHeld) ?_
  clear hK K
  simp only [Act.put, List.setIfInBounds_toArray, List.set_cons_zero, List.set_cons_succ]
  refine wpAnyS_one (i := 27) (oi := ⟨some 61, _, _, _, _, _⟩) rfl (by kernel_rfl) (by rfl) (fun K hK => ?_)
  clear hHeld
  go_simp
  refine (p_c ⟨#[81]⟩ none 0 0 _).mono ?_
  rintro e w47 ⟨rfl, hb⟩
  replace F5 := Lib.hid (F5.out.below hb)
  replace B0 := Lib.hid (B0.out.below hb)
  replace B1 := Lib.hid (B1.out.below hb)
  replace B2 := Lib.hid (B2.out.below hb)
  replace F6 := Lib.hid (F6.out.below hb)
  replace B3 := Lib.hid (B3.out.below hb)
  replace F13 := Lib.hid (F13.out.below hb)
  replace HB := Lib.hid (HB.out.trans (hb.mono HB.out.size))
  clear hb
  have hHeld := HS.out _ B0.out B1.out B2.out B3.out
  refine hK _ _ (fun _ => hHeld) ?_
  clear hK K
  simp only [Act.put, List.setIfInBounds_toArray, List.set_cons_zero, List.set_cons_succ]
  refine wpAnyS_one (i := 28) (oi := ⟨some 62, _, _, _, _, _⟩) rfl (by kernel_rfl) (by rfl) (fun K hK => ?_)
  clear hHeld
  go_simp
  refine (p_c ⟨#[82]⟩ none 0 0 _).mono ?_
  rintro e w48 ⟨rfl, hb⟩
  replace F5 := Lib.hid (F5.out.below hb)
  replace B0 := Lib.hid (B0.out.below hb)
  replace B1 := Lib.hid (B1.out.below hb)
  replace B2 := Lib.hid (B2.out.below hb)
  replace F6 := Lib.hid (F6.out.below hb)
  replace B3 := Lib.hid (B3.out.below hb)
  replace F13 := Lib.hid (F13.out.below hb)
  replace HB := Lib.hid (HB.out.trans (hb.mono HB.out.size))
  clear hb
  have hHeld := HS.out _ B0.out B1.out B2.out B3.out
  refine hK _ _ (fun _ => hHeld) ?_
  clear hK K
  simp only [Act.put, List.setIfInBounds_toArray, List.set_cons_zero, List.set_cons_succ]
  refine wpAnyS_one (i := 29) (oi := ⟨some 63, _, _, _, _, _⟩) rfl (by kernel_rfl) (by rfl) (fun K hK => ?_)
  clear hHeld
  go_simp
  generalize hX : w48.alloc (.cells #[.int .u8 1, .string ⟨#[81]⟩, .slice none 0 0, .slice none 0 0, .int .u8 1, .string ⟨#[82]⟩, .slice none 0 0, .slice none 0 0] 25) = w49
  have hb : Below w48.heap.size w48 w49 := by rw [← hX]; exact (Below.refl _ _).alloc (Nat.le_refl _) _
  have hc : ∀ j u, [Value.int .u8 1, .string ⟨#[81]⟩, .slice none 0 0, .slice none 0 0, .int .u8 1, .string ⟨#[82]⟩, .slice none 0 0, .slice none 0 0][j]? = some u → w49.cell? ⟨w48.heap.size, j, none⟩ = some u := fun j u hj => by rw [← hX, World.cell?_alloc_at _ _ _ _ rfl, ← hj]; simp
  have ho : Own W.heap.size w49 w48.heap.size := ⟨HB.out.size, by rw [← hX]; simp⟩
  replace F5 := Lib.hid (F5.out.below hb)
  replace B0 := Lib.hid (B0.out.below hb)
  replace B1 := Lib.hid (B1.out.below hb)
  replace B2 := Lib.hid (B2.out.below hb)
  replace F6 := Lib.hid (F6.out.below hb)
  replace B3 := Lib.hid (B3.out.below hb)
  replace F13 := Lib.hid (F13.out.below hb)
  replace HB := Lib.hid (HB.out.trans (hb.mono HB.out.size))
  have F14 := Lib.hid (show FVal W.heap.size w49 (.agg #[.int .u8 14, .string ⟨#[]⟩, .slice none 0 0, .slice (some ⟨w48.heap.size, 0, none⟩) 2 2]) (.mk 14 ⟨#[]⟩ [] [(.mk 1 ⟨#[81]⟩ [] []), (.mk 1 ⟨#[82]⟩ [] [])]) from fval_of2 14 ⟨#[]⟩ (by omega) (ok_str (by decide)) ho (fval_leaf 1 ⟨#[81]⟩ (by omega) (ok_str (by decide))) (fval_leaf 1 ⟨#[82]⟩ (by omega) (ok_str (by decide))) hc)
  clear hX hb hc ho
  have hHeld := HS.out _ B0.out B1.out B2.out B3.out
  refine hK _ _ (fun _ => hHeld) ?_
  clear hK K
  simp only [Act.put, List.setIfInBounds_toArray, List.set_cons_zero, List.set_cons_succ]
  refine wpAnyS_one (i := 30) (oi := ⟨some 64, _, _, _, _, _⟩) rfl (by kernel_rfl) (by rfl) (fun K hK => ?_)
  clear hHeld
  go_simp
  refine (of_c 14 ⟨#[]⟩ (some ⟨w48.heap.size, 0, none⟩) 2 2 _).mono ?_
  rintro e w50 ⟨rfl, hb⟩
  replace F5 := Lib.hid (F5.out.below hb)
  replace B0 := Lib.hid (B0.out.below hb)
  replace B1 := Lib.hid (B1.out.below hb)
  replace B2 := Lib.hid (B2.out.below hb)
  replace F6 := Lib.hid (F6.out.below hb)
  replace B3 := Lib.hid (B3.out.below hb)
  replace F13 := Lib.hid (F13.out.below hb)
  replace F14 := Lib.hid (F14.out.below hb)
  replace HB := Lib.hid (HB.out.trans (hb.mono HB.out.size))
  clear hb
  have hHeld := HS.out _ B0.out B1.out B2.out B3.out
  refine hK _ _ (fun _ => hHeld) ?_
  clear hK K
  simp only [Act.put, List.setIfInBounds_toArray, List.set_cons_zero, List.set_cons_succ]
  refine wpAnyS_one (i := 31) (oi := ⟨some 65, _, _, _, _, _⟩) rfl (by kernel_rfl) (by rfl) (fun K hK => ?_)
  clear hHeld
  go_simp
  generalize hX : w50.alloc (.cells #[.int .u8 3, .string ⟨#[]⟩, .slice none 0 0, .slice (some ⟨w44.heap.size, 0, none⟩) 1 1, .int .u8 14, .string ⟨#[]⟩, .slice none 0 0, .slice (some ⟨w48.heap.size, 0, none⟩) 2 2] 25) = w51
  have hb : Below w50.heap.size w50 w51 := by rw [← hX]; exact (Below.refl _ _).alloc (Nat.le_refl _) _
  have hc : ∀ j u, [Value.int .u8 3, .string ⟨#[]⟩, .slice none 0 0, .slice (some ⟨w44.heap.size, 0, none⟩) 1 1, .int .u8 14, .string ⟨#[]⟩, .slice none 0 0, .slice (some ⟨w48.heap.size, 0, none⟩) 2 2][j]? = some u → w51.cell? ⟨w50.heap.size, j, none⟩ = some u := fun j u hj => by rw [← hX, World.cell?_alloc_at _ _ _ _ rfl, ← hj]; simp
  have ho : Own W.heap.size w51 w50.heap.size := ⟨HB.out.size, by rw [← hX]; simp⟩
  replace F5 := Lib.hid (F5.out.below hb)
  replace B0 := Lib.hid (B0.out.below hb)
  replace B1 := Lib.hid (B1.out.below hb)
  replace B2 := Lib.hid (B2.out.below hb)
  replace F6 := Lib.hid (F6.out.below hb)
  replace B3 := Lib.hid (B3.out.below hb)
  replace F13 := Lib.hid (F13.out.below hb)
  replace F14 := Lib.hid (F14.out.below hb)
  replace HB := Lib.hid (HB.out.trans (hb.mono HB.out.size))
  have F15 := Lib.hid (show FVal W.heap.size w51 (.agg #[.int .u8 14, .string ⟨#[]⟩, .slice none 0 0, .slice (some ⟨w50.heap.size, 0, none⟩) 2 2]) (.mk 14 ⟨#[]⟩ [] [(.mk 3 ⟨#[]⟩ [] [(.mk 10 ⟨#[]⟩ [] [(.mk 1 ⟨#[80]⟩ [] [])])]), (.mk 14 ⟨#[]⟩ [] [(.mk 1 ⟨#[81]⟩ [] []), (.mk 1 ⟨#[82]⟩ [] [])])]) from fval_of2 14 ⟨#[]⟩ (by omega) (ok_str (by decide)) ho F13.out F14.out hc)
  clear F13
  clear F14
  clear hX hb hc ho
  have hHeld := HS.out _ B0.out B1.out B2.out B3.out
  refine hK _ _ (fun _ => hHeld) ?_
  clear hK K
  simp only [Act.put, List.setIfInBounds_toArray, List.set_cons_zero, List.set_cons_succ]
  refine wpAnyS_one (i := 32) (oi := ⟨some 66, _, _, _, _, _⟩) rfl (by kernel_rfl) (by rfl) (fun K hK => ?_)
  clear hHeld
  go_simp
  refine (of_c 14 ⟨#[]⟩ (some ⟨w50.heap.size, 0, none⟩) 2 2 _).mono ?_
  rintro e w52 ⟨rfl, hb⟩
  replace F5 := Lib.hid (F5.out.below hb)
  replace B0 := Lib.hid (B0.out.below hb)
  replace B1 := Lib.hid (B1.out.below hb)
  replace B2 := Lib.hid (B2.out.below hb)
  replace F6 := Lib.hid (F6.out.below hb)
  replace B3 := Lib.hid (B3.out.below hb)
  replace F15 := Lib.hid (F15.out.below hb)
  replace HB := Lib.hid (HB.out.trans (hb.mono HB.out.size))
  clear hb
  have hHeld := HS.out _ B0.out B1.out B2.out B3.out
  refine hK _ _ (fun _ => hHeld) ?_
  clear hK K
  simp only [Act.put, List.setIfInBounds_toArray, List.set_cons_zero, List.set_cons_succ]
  refine wpAnyS_one (i := 33) (oi := ⟨some 67, _, _, _, _, _⟩) rfl (by kernel_rfl) (by rfl) (fun K hK => ?_)
  clear hHeld
  go_simp
  refine (means_true ⟨#[126, 91, 93, 80, 32, 117, 110, 116, 105, 108, 32, 81, 32, 117, 110, 116, 105, 108, 32, 82]⟩ _ (by decide) (HT.out.below HB.out HT.out.1) ⟨Nat.lt_of_lt_of_le HL.out.1 HB.out.size, (HL.out.keep (HB.out.block _ HL.out.1)).2⟩ ex2 _ _ _ _ (fval_fov F15.out) ex2_m ex2_e).mono ?_
  rintro e w53 ⟨rfl, hb⟩
  replace F5 := Lib.hid (F5.out.below hb)
  replace B0 := Lib.hid (B0.out.below hb)
  replace B1 := Lib.hid (B1.out.below hb)
  replace B2 := Lib.hid (B2.out.below hb)
  replace F6 := Lib.hid (F6.out.below hb)
  replace B3 := Lib.hid (B3.out.below hb)
  replace F15 := Lib.hid (F15.out.below hb)
  replace HB := Lib.hid (HB.out.trans (hb.mono HB.out.size))
  clear hb
  have hHeld := HS.out _ B0.out B1.out B2.out B3.out
  refine hK _ _ (fun _ => hHeld) ?_
  clear hK K
  simp only [Act.put, List.setIfInBounds_toArray, List.set_cons_zero, List.set_cons_succ]
  clear F15
  refine wpAnyS_take (i := 34) (oi := ⟨some 68, _, _, _, _, _⟩) (v := .bool false) rfl (by kernel_rfl) (by kernel_rfl) (by kernel_rfl) (by kernel_rfl) (fun _ _ _ h => Both.panic h) (Or.inl ⟨by rfl, ?_⟩) (by assumption) ?_
  · intro w' hSw
    obtain ⟨k0', k1', k2', k3', k4', k5', k6', k7', k8', k9', k10', k11', k12', k13', k14', k15'⟩ := hSw
    go_simp
  simp only [Act.put, List.setIfInBounds_toArray, List.set_cons_zero, List.set_cons_succ]
  refine wpAnyS_take (i := 35) (oi := ⟨some 69, _, _, _, _, _⟩) (v := .bool false) rfl (by kernel_rfl) (by kernel_rfl) (by kernel_rfl) (by kernel_rfl) (fun _ _ _ h => Both.panic h) (Or.inl ⟨by rfl, ?_⟩) (by assumption) ?_
  · intro w' hSw
    obtain ⟨k0', k1', k2', k3', k4', k5', k6', k7', k8', k9', k10', k11', k12', k13', k14', k15'⟩ := hSw
    go_simp
  simp only [Act.put, List.setIfInBounds_toArray, List.set_cons_zero, List.set_cons_succ]
  refine wpAnyS_take (i := 36) (oi := ⟨some 70, _, _, _, _, _⟩) (v := .bool false) rfl (by kernel_rfl) (by kernel_rfl) (by kernel_rfl) (by kernel_rfl) (fun _ _ _ h => Both.panic h) (Or.inl ⟨by rfl, ?_⟩) (by assumption) ?_
  · intro w' hSw
    obtain ⟨k0', k1', k2', k3', k4', k5', k6', k7', k8', k9', k10', k11', k12', k13', k14', k15'⟩ := hSw
    go_simp
  simp only [Act.put, List.setIfInBounds_toArray, List.set_cons_zero, List.set_cons_succ]
  refine wpAnyS_take (i := 37) (oi := ⟨some 71, _, _, _, _, _⟩) (v := .agg #[.int .u8 7, .string ⟨#[]⟩, .slice none 0 0, .slice (some ⟨w16.heap.size, 0, none⟩) 2 2]) rfl (by kernel_rfl) (by kernel_rfl) (by kernel_rfl) (by kernel_rfl) (fun _ _ _ h => Both.panic h) (Or.inl ⟨by rfl, ?_⟩) (by assumption) ?_
  · intro w' hSw
    obtain ⟨k0', k1', k2', k3', k4', k5', k6', k7', k8', k9', k10', k11', k12', k13', k14', k15'⟩ := hSw
    go_simp
  simp only [Act.put, List.setIfInBounds_toArray, List.set_cons_zero, List.set_cons_succ]
  refine wpAnyS_one (i := 38) (oi := ⟨some 72, _, _, _, _, _⟩) rfl (by kernel_rfl) (by rfl) (fun K hK => ?_)
  clear hHeld
  go_simp
  refine (p_c ⟨#[83]⟩ none 0 0 _).mono ?_
  rintro e w54 ⟨rfl, hb⟩
  replace F5 := Lib.hid (F5.out.below hb)
  replace B0 := Lib.hid (B0.out.below hb)
  replace B1 := Lib.hid (B1.out.below hb)
  replace B2 := Lib.hid (B2.out.below hb)
  replace F6 := Lib.hid (F6.out.below hb)
  replace B3 := Lib.hid (B3.out.below hb)
  replace HB := Lib.hid (HB.out.trans (hb.mono HB.out.size))
  clear hb
  have hHeld := HS.out _ B0.out B1.out B2.out B3.out
  refine hK _ _ (fun _ => hHeld) ?_
  clear hK K
  simp only [Act.put, List.setIfInBounds_toArray, List.set_cons_zero, List.set_cons_succ]
  refine wpAnyS_one (i := 39) (oi := ⟨some 73, _, _, _, _, _⟩) rfl (by kernel_rfl) (by rfl) (fun K hK => ?_)
  clear hHeld
  go_simp
  generalize hX : w54.alloc (.cells #[.int .u8 7, .string ⟨#[]⟩, .slice none 0 0, .slice (some ⟨w16.heap.size, 0, none⟩) 2 2, .int .u8 1, .string ⟨#[83]⟩, .slice none 0 0, .slice none 0 0] 25) = w55
  have hb : Below w54.heap.size w54 w55 := by rw [← hX]; exact (Below.refl _ _).alloc (Nat.le_refl _) _
  have hc : ∀ j u, [Value.int .u8 7, .string ⟨#[]⟩, .slice none 0 0, .slice (some ⟨w16.heap.size, 0, none⟩) 2 2, .int .u8 1, .string ⟨#[83]⟩, .slice none 0 0, .slice none 0 0][j]? = some u → w55.cell? ⟨w54.heap.size, j, none⟩ = some u := fun j u hj => by rw [← hX, World.cell?_alloc_at _ _ _ _ rfl, ← hj]; simp
  have ho : Own W.heap.size w55 w54.heap.size := ⟨HB.out.size, by rw [← hX]; simp⟩
  replace F5 := Lib.hid (F5.out.below hb)
  replace B0 := Lib.hid (B0.out.below hb)
  replace B1 := Lib.hid (B1.out.below hb)
  replace B2 := Lib.hid (B2.out.below hb)
  replace F6 := Lib.hid (F6.out.below hb)
  replace B3 := Lib.hid (B3.out.below hb)
  replace HB := Lib.hid (HB.out.trans (hb.mono HB.out.size))
  have F16 := Lib.hid (show FVal W.heap.size w55 (.agg #[.int .u8 7, .string ⟨#[]⟩, .slice none 0 0, .slice (some ⟨w54.heap.size, 0, none⟩) 2 2]) (.mk 7 ⟨#[]⟩ [] [(.mk 7 ⟨#[]⟩ [] [(.mk 6 ⟨#[]⟩ [] [(.mk 1 ⟨#[80]⟩ [] []), (.mk 1 ⟨#[81]⟩ [] [])]), (.mk 1 ⟨#[82]⟩ [] [])]), (.mk 1 ⟨#[83]⟩ [] [])]) from fval_of2 7 ⟨#[]⟩ (by omega) (ok_str (by decide)) ho F5.out (fval_leaf 1 ⟨#[83]⟩ (by omega) (ok_str (by decide))) hc)
  clear F5
  clear hX hb hc ho
  have hHeld := HS.out _ B0.out B1.out B2.out B3.out
  refine hK _ _ (fun _ => hHeld) ?_
  clear hK K
  simp only [Act.put, List.setIfInBounds_toArray, List.set_cons_zero, List.set_cons_succ]
  refine wpAnyS_one (i := 40) (oi := ⟨some 74, _, _, _, _, _⟩) rfl (by kernel_rfl) (by rfl) (fun K hK => ?_)
  clear hHeld
  go_simp
  refine (of_c 7 ⟨#[]⟩ (some ⟨w54.heap.size, 0, none⟩) 2 2 _).mono ?_
  rintro e w56 ⟨rfl, hb⟩
  replace B0 := Lib.hid (B0.out.below hb)
  replace B1 := Lib.hid (B1.out.below hb)
  replace B2 := Lib.hid (B2.out.below hb)
  replace F6 := Lib.hid (F6.out.below hb)
  replace B3 := Lib.hid (B3.out.below hb)
  replace F16 := Lib.hid (F16.out.below hb)
  replace HB := Lib.hid (HB.out.trans (hb.mono HB.out.size))
  clear hb
  have hHeld := HS.out _ B0.out B1.out B2.out B3.out
  refine hK _ _ (fun _ => hHeld) ?_
  clear hK K
  simp only [Act.put, List.setIfInBounds_toArray, List.set_cons_zero, List.set_cons_succ]
  refine wpAnyS_one (i := 41) (oi := ⟨some 75, _, _, _, _, _⟩) rfl (by kernel_rfl) (by rfl) (fun K hK => ?_)
  clear hHeld
  go_simp
  refine (means_true ⟨#[80, 32, 45, 62, 32, 81, 32, 60, 45, 62, 32, 82, 32, 60, 45, 62, 32, 83]⟩ _ (by decide) (HT.out.below HB.out HT.out.1) ⟨Nat.lt_of_lt_of_le HL.out.1 HB.out.size, (HL.out.keep (HB.out.block _ HL.out.1)).2⟩ ex3 _ _ _ _ (fval_fov F16.out) ex3_m ex3_e).mono ?_
  rintro e w57 ⟨rfl, hb⟩
  replace B0 := Lib.hid (B0.out.below hb)
  replace B1 := Lib.hid (B1.out.below hb)
  replace B2 := Lib.hid (B2.out.below hb)
  replace F6 := Lib.hid (F6.out.below hb)
  replace B3 := Lib.hid (B3.out.below hb)
  replace F16 := Lib.hid (F16.out.below hb)
  replace HB := Lib.hid (HB.out.trans (hb.mono HB.out.size))
  clear hb
  have hHeld := HS.out _ B0.out B1.out B2.out B3.out
  refine hK _ _ (fun _ => hHeld) ?_
  clear hK K
  simp only [Act.put, List.setIfInBounds_toArray, List.set_cons_zero, List.set_cons_succ]
  clear F16
  refine wpAnyS_take (i := 42) (oi := ⟨some 76, _, _, _, _, _⟩) (v := .bool false) rfl (by kernel_rfl) (by kernel_rfl) (by kernel_rfl) (by kernel_rfl) (fun _ _ _ h => Both.panic h) (Or.inl ⟨by rfl, ?_⟩) (by assumption) ?_
  · intro w' hSw
    obtain ⟨k0', k1', k2', k3', k4', k5', k6', k7', k8', k9', k10', k11', k12', k13', k14', k15'⟩ := hSw
    go_simp
  simp only [Act.put, List.setIfInBounds_toArray, List.set_cons_zero, List.set_cons_succ]
  refine wpAnyS_take (i := 43) (oi := ⟨some 77, _, _, _, _, _⟩) (v := .bool false) rfl (by kernel_rfl) (by kernel_rfl) (by kernel_rfl) (by kernel_rfl) (fun _ _ _ h => Both.panic h) (Or.inl ⟨by rfl, ?_⟩) (by assumption) ?_
  · intro w' hSw
    obtain ⟨k0', k1', k2', k3', k4', k5', k6', k7', k8', k9', k10', k11', k12', k13', k14', k15'⟩ := hSw
    go_simp
  simp only [Act.put, List.setIfInBounds_toArray, List.set_cons_zero, List.set_cons_succ]
  refine wpAnyS_take (i := 44) (oi := ⟨some 78, _, _, _, _, _⟩) (v := .bool false) rfl (by kernel_rfl) (by kernel_rfl) (by kernel_rfl) (by kernel_rfl) (fun _ _ _ h => Both.panic h) (Or.inl ⟨by rfl, ?_⟩) (by assumption) ?_
  · intro w' hSw
    obtain ⟨k0', k1', k2', k3', k4', k5', k6', k7', k8', k9', k10', k11', k12', k13', k14', k15'⟩ := hSw
    go_simp
  simp only [Act.put, List.setIfInBounds_toArray, List.set_cons_zero, List.set_cons_succ]
  refine wpAnyS_take (i := 45) (oi := ⟨some 79, _, _, _, _, _⟩) (v := .agg #[.int .u8 16, .string ⟨#[63, 65]⟩, .slice (some ⟨w23.heap.size, 0, none⟩) 2 2, .slice none 0 0]) rfl (by kernel_rfl) (by kernel_rfl) (by kernel_rfl) (by kernel_rfl) (fun _ _ _ h => Both.panic h) (Or.inl ⟨by rfl, ?_⟩) (by assumption) ?_
  · intro w' hSw
    obtain ⟨k0', k1', k2', k3', k4', k5', k6', k7', k8', k9', k10', k11', k12', k13', k14', k15'⟩ := hSw
    go_simp
  simp only [Act.put, List.setIfInBounds_toArray, List.set_cons_zero, List.set_cons_succ]
  refine wpAnyS_take (i := 46) (oi := ⟨some 80, _, _, _, _, _⟩) (v := .agg #[.int .u8 15, .string ⟨#[63, 65]⟩, .slice none 0 0, .slice none 0 0]) rfl (by kernel_rfl) (by kernel_rfl) (by kernel_rfl) (by kernel_rfl) (fun _ _ _ h => Both.panic h) (Or.inl ⟨by rfl, ?_⟩) (by assumption) ?_
  · intro w' hSw
    obtain ⟨k0', k1', k2', k3', k4', k5', k6', k7', k8', k9', k10', k11', k12', k13', k14', k15'⟩ := hSw
    go_simp
  simp only [Act.put, List.setIfInBounds_toArray, List.set_cons_zero, List.set_cons_succ]
  refine wpAnyS_one (i := 47) (oi := ⟨some 81, _, _, _, _, _⟩) rfl (by kernel_rfl) (by rfl) (fun K hK => ?_)
  clear hHeld
  go_simp
  generalize hX : w57.alloc (.cells #[.int .u8 15, .string ⟨#[63, 65]⟩, .slice none 0 0, .slice none 0 0] 25) = w58
  have hb : Below w57.heap.size w57 w58 := by rw [← hX]; exact (Below.refl _ _).alloc (Nat.le_refl _) _
  have hc : ∀ j u, [Value.int .u8 15, .string ⟨#[63, 65]⟩, .slice none 0 0, .slice none 0 0][j]? = some u → w58.cell? ⟨w57.heap.size, j, none⟩ = some u := fun j u hj => by rw [← hX, World.cell?_alloc_at _ _ _ _ rfl, ← hj]; simp
  have ho : Own W.heap.size w58 w57.heap.size := ⟨HB.out.size, by rw [← hX]; simp⟩
  replace B0 := Lib.hid (B0.out.below hb)
  replace B1 := Lib.hid (B1.out.below hb)
  replace B2 := Lib.hid (B2.out.below hb)
  replace F6 := Lib.hid (F6.out.below hb)
  replace B3 := Lib.hid (B3.out.below hb)
  replace HB := Lib.hid (HB.out.trans (hb.mono HB.out.size))
  have F17 := Lib.hid (show FVal W.heap.size w58 (.agg #[.int .u8 9, .string ⟨#[120]⟩, .slice none 0 0, .slice (some ⟨w57.heap.size, 0, none⟩) 1 1]) (.mk 9 ⟨#[120]⟩ [] [(.mk 15 ⟨#[63, 65]⟩ [] [])]) from fval_of1 9 ⟨#[120]⟩ (by omega) (ok_str (by decide)) ho (fval_leaf 15 ⟨#[63, 65]⟩ (by omega) (ok_str (by decide))) hc)
  clear hX hb hc ho
  have hHeld := HS.out _ B0.out B1.out B2.out B3.out
  refine hK _ _ (fun _ => hHeld) ?_
  clear hK K
  simp only [Act.put, List.setIfInBounds_toArray, List.set_cons_zero, List.set_cons_succ]
  refine wpAnyS_one (i := 48) (oi := ⟨some 82, _, _, _, _, _⟩) rfl (by kernel_rfl) (by rfl) (fun K hK => ?_)
  clear hHeld
  go_simp
  refine (of_c 9 ⟨#[120]⟩ (some ⟨w57.heap.size, 0, none⟩) 1 1 _).mono ?_
  rintro e w59 ⟨rfl, hb⟩
  replace B0 := Lib.hid (B0.out.below hb)
  replace B1 := Lib.hid (B1.out.below hb)
  replace B2 := Lib.hid (B2.out.below hb)
  replace F6 := Lib.hid (F6.out.below hb)
  replace B3 := Lib.hid (B3.out.below hb)
  replace F17 := Lib.hid (F17.out.below hb)
  replace HB := Lib.hid (HB.out.trans (hb.mono HB.out.size))
  clear hb
  have hHeld := HS.out _ B0.out B1.out B2.out B3.out
  refine hK _ _ (fun _ => hHeld) ?_
  clear hK K
  simp only [Act.put, List.setIfInBounds_toArray, List.set_cons_zero, List.set_cons_succ]
  refine wpAnyS_one (i := 49) (oi := ⟨some 83, _, _, _, _, _⟩) rfl (by kernel_rfl) (by rfl) (fun K hK => ?_)
  clear hHeld
  go_simp
  generalize hX : w59.alloc (.cells #[.int .u8 16, .string ⟨#[63, 65]⟩, .slice (some ⟨w23.heap.size, 0, none⟩) 2 2, .slice none 0 0, .int .u8 9, .string ⟨#[120]⟩, .slice none 0 0, .slice (some ⟨w57.heap.size, 0, none⟩) 1 1] 25) = w60
  have hb : Below w59.heap.size w59 w60 := by rw [← hX]; exact (Below.refl _ _).alloc (Nat.le_refl _) _
  have hc : ∀ j u, [Value.int .u8 16, .string ⟨#[63, 65]⟩, .slice (some ⟨w23.heap.size, 0, none⟩) 2 2, .slice none 0 0, .int .u8 9, .string ⟨#[120]⟩, .slice none 0 0, .slice (some ⟨w57.heap.size, 0, none⟩) 1 1][j]? = some u → w60.cell? ⟨w59.heap.size, j, none⟩ = some u := fun j u hj => by rw [← hX, World.cell?_alloc_at _ _ _ _ rfl, ← hj]; simp
  have ho : Own W.heap.size w60 w59.heap.size := ⟨HB.out.size, by rw [← hX]; simp⟩
  replace B0 := Lib.hid (B0.out.below hb)
  replace B1 := Lib.hid (B1.out.below hb)
  replace B2 := Lib.hid (B2.out.below hb)
  replace F6 := Lib.hid (F6.out.below hb)
  replace B3 := Lib.hid (B3.out.below hb)
  replace F17 := Lib.hid (F17.out.below hb)
  replace HB := Lib.hid (HB.out.trans (hb.mono HB.out.size))
  have F18 := Lib.hid (show FVal W.heap.size w60 (.agg #[.int .u8 4, .string ⟨#[]⟩, .slice none 0 0, .slice (some ⟨w59.heap.size, 0, none⟩) 2 2]) (.mk 4 ⟨#[]⟩ [] [(.mk 16 ⟨#[63, 65]⟩ [.mk true ⟨#[120]⟩ [], .mk true ⟨#[63, 116]⟩ []] []), (.mk 9 ⟨#[120]⟩ [] [(.mk 15 ⟨#[63, 65]⟩ [] [])])]) from fval_of2 4 ⟨#[]⟩ (by omega) (ok_str (by decide)) ho F6.out F17.out hc)
  clear F6
  clear F17
  clear hX hb hc ho
  have hHeld := HS.out _ B0.out B1.out B2.out B3.out
  refine hK _ _ (fun _ => hHeld) ?_
  clear hK K
  simp only [Act.put, List.setIfInBounds_toArray, List.set_cons_zero, List.set_cons_succ]
  refine wpAnyS_one (i := 50) (oi := ⟨some 84, _, _, _, _, _⟩) rfl (by kernel_rfl) (by rfl) (fun K hK => ?_)
  clear hHeld
  go_simp
  refine (of_c 4 ⟨#[]⟩ (some ⟨w59.heap.size, 0, none⟩) 2 2 _).mono ?_
  rintro e w61 ⟨rfl, hb⟩
  replace B0 := Lib.hid (B0.out.below hb)
  replace B1 := Lib.hid (B1.out.below hb)
  replace B2 := Lib.hid (B2.out.below hb)
  replace B3 := Lib.hid (B3.out.below hb)
  replace F18 := Lib.hid (F18.out.below hb)
  replace HB := Lib.hid (HB.out.trans (hb.mono HB.out.size))
  clear hb
  have hHeld := HS.out _ B0.out B1.out B2.out B3.out
  refine hK _ _ (fun _ => hHeld) ?_
  clear hK K
  simp only [Act.put, List.setIfInBounds_toArray, List.set_cons_zero, List.set_cons_succ]
  refine wpAnyS_one (i := 51) (oi := ⟨some 85, _, _, _, _, _⟩) rfl (by kernel_rfl) (by rfl) (fun K hK => ?_)
  clear hHeld
  go_simp
  refine (means_true ⟨#[63, 65, 91, 63, 116, 47, 120, 93, 32, 38, 32, 115, 111, 109, 101, 32, 120, 32, 63, 65]⟩ _ (by decide) (HT.out.below HB.out HT.out.1) ⟨Nat.lt_of_lt_of_le HL.out.1 HB.out.size, (HL.out.keep (HB.out.block _ HL.out.1)).2⟩ ex4 _ _ _ _ (fval_fov F18.out) ex4_m ex4_e).mono ?_
  rintro e w62 ⟨rfl, hb⟩
  replace B0 := Lib.hid (B0.out.below hb)
  replace B1 := Lib.hid (B1.out.below hb)
  replace B2 := Lib.hid (B2.out.below hb)
  replace B3 := Lib.hid (B3.out.below hb)
  replace F18 := Lib.hid (F18.out.below hb)
  replace HB := Lib.hid (HB.out.trans (hb.mono HB.out.size))
  clear hb
  have hHeld := HS.out _ B0.out B1.out B2.out B3.out
  refine hK _ _ (fun _ => hHeld) ?_
  clear hK K
  simp only [Act.put, List.setIfInBounds_toArray, List.set_cons_zero, List.set_cons_succ]
  clear F18
  refine wpAnyS_take (i := 52) (oi := ⟨some 86, _, _, _, _, _⟩) (v := .bool false) rfl (by kernel_rfl) (by kernel_rfl) (by kernel_rfl) (by kernel_rfl) (fun _ _ _ h => Both.panic h) (Or.inl ⟨by rfl, ?_⟩) (by assumption) ?_
  · intro w' hSw
    obtain ⟨k0', k1', k2', k3', k4', k5', k6', k7', k8', k9', k10', k11', k12', k13', k14', k15'⟩ := hSw
    go_simp
  simp only [Act.put, List.setIfInBounds_toArray, List.set_cons_zero, List.set_cons_succ]
  refine wpAnyS_take (i := 53) (oi := ⟨some 87, _, _, _, _, _⟩) (v := .bool false) rfl (by kernel_rfl) (by kernel_rfl) (by kernel_rfl) (by kernel_rfl) (fun _ _ _ h => Both.panic h) (Or.inl ⟨by rfl, ?_⟩) (by assumption) ?_
  · intro w' hSw
    obtain ⟨k0', k1', k2', k3', k4', k5', k6', k7', k8', k9', k10', k11', k12', k13', k14', k15'⟩ := hSw
    go_simp
  simp only [Act.put, List.setIfInBounds_toArray, List.set_cons_zero, List.set_cons_succ]
  refine wpAnyS_done (by kernel_rfl) ?_
  refine Both.normal ?_
  clear hHeld HS
  clear B0
  clear B1
  clear B2
  clear B3
  go_wp2_with fail
  generalize hX : w62.alloc (.cells #[.string ⟨#[80, 32, 38]⟩, .string ⟨#[80, 32, 81]⟩, .string ⟨#[97, 108, 108, 32, 97, 32, 80]⟩, .string ⟨#[80, 40]⟩, .string ⟨#[80, 40, 41]⟩, .string ⟨#[40, 80]⟩, .string ⟨#[63, 65]⟩, .string ⟨#[80, 40, 97, 44, 32, 97, 44, 32, 97, 44, 32, 97, 44, 32, 97, 41]⟩, .string ⟨#[]⟩] 9) = w63
  have hb : Below w62.heap.size w62 w63 := by rw [← hX]; exact (Below.refl _ _).alloc (Nat.le_refl _) _
  have hc : ∀ j u, [Value.string ⟨#[80, 32, 38]⟩, .string ⟨#[80, 32, 81]⟩, .string ⟨#[97, 108, 108, 32, 97, 32, 80]⟩, .string ⟨#[80, 40]⟩, .string ⟨#[80, 40, 41]⟩, .string ⟨#[40, 80]⟩, .string ⟨#[63, 65]⟩, .string ⟨#[80, 40, 97, 44, 32, 97, 44, 32, 97, 44, 32, 97, 44, 32, 97, 41]⟩, .string ⟨#[]⟩][j]? = some u → w63.cell? ⟨w62.heap.size, j, none⟩ = some u := fun j u hj => by rw [← hX, World.cell?_alloc_at _ _ _ _ rfl, ← hj]; simp
  have hg0 : w62.heap.size < w63.heap.size := by rw [← hX]; simp
  replace HB := Lib.hid (HB.out.trans (hb.mono HB.out.size))
  have HC := Lib.hid hc
  have HG0 := Lib.hid hg0
  clear hX hb hc hg0
  go_loopw [90] (fun i wr => ∃ k : Int, i = .int .i64 k ∧ 0 ≤ k ∧ k ≤ 9 ∧ Below w63.heap.size w63 wr) (fun i _ => 9 - (intOf i).toNat)
  case atStart => exact ⟨0, rfl, by omega, by omega, Below.refl _ _⟩
  case round =>
    obtain ⟨k, rfl, h0, h9, hb⟩ := hrel
    have HBR := Lib.hid hb
    clear hb
    by_cases hk9 : k < 9
    · have hks : k = 0 ∨ k = 1 ∨ k = 2 ∨ k = 3 ∨ k = 4 ∨ k = 5 ∨ k = 6 ∨ k = 7 ∨ k = 8 := by omega
      clear h0 h9 hk9
      rcases hks with rfl | rfl | rfl | rfl | rfl | rfl | rfl | rfl | rfl
      · have c0 := (HBR.out.cell (p := ⟨w62.heap.size, 0, none⟩) HG0.out).trans (HC.out 0 _ rfl)
        go_wp2_with fail
        clear c0
        have hb := Below.drew (Below.refl wr.heap.size wr)
        generalize hwd : wr.drew = wd at hb
        have HBD := Lib.hid (HBR.out.trans (hb.mono HBR.out.size))
        clear hb
        refine wp_region_SP (fun c w' => False) (fun c a' w' hd h => h.elim) (fun _ => True) [] 6 #[false, false, false, false, false, false] (by kernel_rfl) (by kernel_rfl) (by kernel_rfl) trivial (fun hHeld => ?_)
        rw [hwd]
        clear hwd hHeld
        refine wpAnyS_take (i := 1) (oi := ⟨some 96, _, _, _, _, _⟩) (v := .int .i64 0) rfl (by kernel_rfl) (by kernel_rfl) (by kernel_rfl) (by kernel_rfl) (fun _ _ _ h => Both.panic h) (Or.inl ⟨by rfl, ?_⟩) trivial ?_
        · intro w' hSw
          obtain _ := hSw
          go_simp
        simp only [Act.put, List.setIfInBounds_toArray, List.set_cons_zero, List.set_cons_succ]
        refine wpAnyS_take (i := 4) (oi := ⟨some 7, _, _, _, _, _⟩) (v := .int .i64 50) rfl (by kernel_rfl) (by kernel_rfl) (by kernel_rfl) (by kernel_rfl) (fun _ _ _ h => Both.panic h) (Or.inl ⟨by rfl, ?_⟩) trivial ?_
        · intro w' hSw
          obtain _ := hSw
          go_simp
        simp only [Act.put, List.setIfInBounds_toArray, List.set_cons_zero, List.set_cons_succ]
        refine wpAnyS_one (i := 0) (oi := ⟨some 95, _, _, _, _, _⟩) rfl (by kernel_rfl) (by rfl) (fun K hK => ?_)
        go_simp
        generalize hX : wd.alloc (.cells #[.int .i64 3, .int .i64 2, .int .i64 4, .int .i64 2, .int .i64 2, .int .i64 2, .int .i64 0, .int .i64 0, .int .i64 0] 3) = wy
        have hb : Below wd.heap.size wd wy := by rw [← hX]; exact (Below.refl _ _).alloc (Nat.le_refl _) _
        have c1 : wy.cell? ⟨wd.heap.size, 0, none⟩ = some (.int .i64 3) := by rw [← hX, World.cell?_alloc_at _ _ _ _ rfl]; rfl
        have HBY := Lib.hid (HBD.out.trans (hb.mono HBD.out.size))
        clear hX hb
        refine hK _ _ (fun _ => trivial) ?_
        clear hK K
        simp only [Act.put, List.setIfInBounds_toArray, List.set_cons_zero, List.set_cons_succ]
        refine wpAnyS_one (i := 2) (oi := ⟨some 97, _, _, _, _, _⟩) rfl (by kernel_rfl) (by rfl) (fun K hK => ?_)
        go_simp
        refine hK _ _ (fun _ => trivial) ?_
        clear hK K
        simp only [Act.put, List.setIfInBounds_toArray, List.set_cons_zero, List.set_cons_succ]
        refine wpAnyS_one (i := 3) (oi := ⟨some 98, _, _, _, _, _⟩) rfl (by kernel_rfl) (by rfl) (fun K hK => ?_)
        go_simp
        refine hK _ _ (fun _ => trivial) ?_
        clear hK K
        simp only [Act.put, List.setIfInBounds_toArray, List.set_cons_zero, List.set_cons_succ]
        refine wpAnyS_one (i := 5) (oi := ⟨some 8, _, _, _, _, _⟩) rfl (by kernel_rfl) (by rfl) (fun K hK => ?_)
        go_simp
        refine hK _ _ (fun _ => trivial) ?_
        clear hK K
        simp only [Act.put, List.setIfInBounds_toArray, List.set_cons_zero, List.set_cons_succ]
        refine wpAnyS_done (by kernel_rfl) ?_
        refine Both.normal ?_
        clear c1
        have hbw := HB.out.trans (HBY.out.mono HB.out.size)
        have hfm := form_c ⟨#[80, 32, 38]⟩ wy (by decide) (HT.out.below hbw HT.out.1) ⟨Nat.lt_of_lt_of_le HL.out.1 hbw.size, (HL.out.keep (hbw.block _ HL.out.1)).2⟩
        rw [bad0_m] at hfm
        clear hbw
        go_wp2_with fail
        refine hfm.mono ?_
        rintro e wz ⟨v, rfl, hv, hbz⟩
        clear hfm
        have HV := Lib.hid (show FVal wy.heap.size wz v zeroF from hv)
        obtain ⟨x2, y2, x3, y3, hve, _⟩ := hv
        have hve : v = .agg #[.int .u8 0, .string ⟨#[]⟩, .slice x2 0 y2, .slice x3 0 y3] := hve
        subst hve
        have HBZ := Lib.hid (HBY.out.trans (hbz.mono HBY.out.size))
        clear hbz
        go_upto_region 12 with fail
        generalize hX : wz.alloc (.cells #[.int .u8 0, .string ⟨#[]⟩, .slice x2 0 y2, .slice x3 0 y3] 25) = wx
        have hb : Below wz.heap.size wz wx := by rw [← hX]; exact (Below.refl _ _).alloc (Nat.le_refl _) _
        have hbx : Bx4 wx wz.heap.size (.int .u8 0) (.string ⟨#[]⟩) (.slice x2 0 y2) (.slice x3 0 y3) := by rw [← hX]; exact Bx4.new _ _ _ _ _ _
        have hsm := eqF_c (SizeOf.sizeOf zeroF + 1) zeroF (Nat.lt_succ_self _) zeroF _ _ _ _ _ _ _ _ wx.heap.size wx (fval_fov (HV.out.below hb)) (fval_fov (lo := 0) (fval_leaf 0 ⟨#[]⟩ (by omega) (ok_str (by decide)))) (Nat.le_refl _)
        rw [zero_e] at hsm
        obtain ⟨d0, d1, d2, d3, _, _, _, _, hdz⟩ := hbx
        have HBX := Lib.hid (HBZ.out.trans (hb.mono HBZ.out.size))
        clear hX hb HV
        go_wp2_with fail
        refine hsm.mono ?_
        rintro e wv ⟨rfl, hbv⟩
        have HBV := Lib.hid (HBX.out.trans (hbv.mono HBX.out.size))
        clear hbv hsm d0 d1 d2 d3 hdz
        go_wp2_with fail
        exact ⟨⟨1, rfl, by omega, by omega, HBV.out⟩, by decide⟩
      · have c0 := (HBR.out.cell (p := ⟨w62.heap.size, 1, none⟩) HG0.out).trans (HC.out 1 _ rfl)
        go_wp2_with fail
        clear c0
        have hb := Below.drew (Below.refl wr.heap.size wr)
        generalize hwd : wr.drew = wd at hb
        have HBD := Lib.hid (HBR.out.trans (hb.mono HBR.out.size))
        clear hb
        refine wp_region_SP (fun c w' => False) (fun c a' w' hd h => h.elim) (fun _ => True) [] 6 #[false, false, false, false, false, false] (by kernel_rfl) (by kernel_rfl) (by kernel_rfl) trivial (fun hHeld => ?_)
        rw [hwd]
        clear hwd hHeld
        refine wpAnyS_take (i := 1) (oi := ⟨some 96, _, _, _, _, _⟩) (v := .int .i64 1) rfl (by kernel_rfl) (by kernel_rfl) (by kernel_rfl) (by kernel_rfl) (fun _ _ _ h => Both.panic h) (Or.inl ⟨by rfl, ?_⟩) trivial ?_
        · intro w' hSw
          obtain _ := hSw
          go_simp
        simp only [Act.put, List.setIfInBounds_toArray, List.set_cons_zero, List.set_cons_succ]
        refine wpAnyS_take (i := 4) (oi := ⟨some 7, _, _, _, _, _⟩) (v := .int .i64 50) rfl (by kernel_rfl) (by kernel_rfl) (by kernel_rfl) (by kernel_rfl) (fun _ _ _ h => Both.panic h) (Or.inl ⟨by rfl, ?_⟩) trivial ?_
        · intro w' hSw
          obtain _ := hSw
          go_simp
        simp only [Act.put, List.setIfInBounds_toArray, List.set_cons_zero, List.set_cons_succ]
        refine wpAnyS_one (i := 0) (oi := ⟨some 95, _, _, _, _, _⟩) rfl (by kernel_rfl) (by rfl) (fun K hK => ?_)
        go_simp
        generalize hX : wd.alloc (.cells #[.int .i64 3, .int .i64 2, .int .i64 4, .int .i64 2, .int .i64 2, .int .i64 2, .int .i64 0, .int .i64 0, .int .i64 0] 3) = wy
        have hb : Below wd.heap.size wd wy := by rw [← hX]; exact (Below.refl _ _).alloc (Nat.le_refl _) _
        have c1 : wy.cell? ⟨wd.heap.size, 1, none⟩ = some (.int .i64 2) := by rw [← hX, World.cell?_alloc_at _ _ _ _ rfl]; rfl
        have HBY := Lib.hid (HBD.out.trans (hb.mono HBD.out.size))
        clear hX hb
        refine hK _ _ (fun _ => trivial) ?_
        clear hK K
        simp only [Act.put, List.setIfInBounds_toArray, List.set_cons_zero, List.set_cons_succ]
        refine wpAnyS_one (i := 2) (oi := ⟨some 97, _, _, _, _, _⟩) rfl (by kernel_rfl) (by rfl) (fun K hK => ?_)
        go_simp
        refine hK _ _ (fun _ => trivial) ?_
        clear hK K
        simp only [Act.put, List.setIfInBounds_toArray, List.set_cons_zero, List.set_cons_succ]
        refine wpAnyS_one (i := 3) (oi := ⟨some 98, _, _, _, _, _⟩) rfl (by kernel_rfl) (by rfl) (fun K hK => ?_)
        go_simp
        refine hK _ _ (fun _ => trivial) ?_
        clear hK K
        simp only [Act.put, List.setIfInBounds_toArray, List.set_cons_zero, List.set_cons_succ]
        refine wpAnyS_one (i := 5) (oi := ⟨some 8, _, _, _, _, _⟩) rfl (by kernel_rfl) (by rfl) (fun K hK => ?_)
        go_simp
        refine hK _ _ (fun _ => trivial) ?_
        clear hK K
        simp only [Act.put, List.setIfInBounds_toArray, List.set_cons_zero, List.set_cons_succ]
        refine wpAnyS_done (by kernel_rfl) ?_
        refine Both.normal ?_
        clear c1
        have hbw := HB.out.trans (HBY.out.mono HB.out.size)
        have hfm := form_c ⟨#[80, 32, 81]⟩ wy (by decide) (HT.out.below hbw HT.out.1) ⟨Nat.lt_of_lt_of_le HL.out.1 hbw.size, (HL.out.keep (hbw.block _ HL.out.1)).2⟩
        rw [bad1_m] at hfm
        clear hbw
        go_wp2_with fail
        refine hfm.mono ?_
        rintro e wz ⟨v, rfl, hv, hbz⟩
        clear hfm
        have HV := Lib.hid (show FVal wy.heap.size wz v zeroF from hv)
        obtain ⟨x2, y2, x3, y3, hve, _⟩ := hv
        have hve : v = .agg #[.int .u8 0, .string ⟨#[]⟩, .slice x2 0 y2, .slice x3 0 y3] := hve
        subst hve
        have HBZ := Lib.hid (HBY.out.trans (hbz.mono HBY.out.size))
        clear hbz
        go_upto_region 12 with fail
        generalize hX : wz.alloc (.cells #[.int .u8 0, .string ⟨#[]⟩, .slice x2 0 y2, .slice x3 0 y3] 25) = wx
        have hb : Below wz.heap.size wz wx := by rw [← hX]; exact (Below.refl _ _).alloc (Nat.le_refl _) _
        have hbx : Bx4 wx wz.heap.size (.int .u8 0) (.string ⟨#[]⟩) (.slice x2 0 y2) (.slice x3 0 y3) := by rw [← hX]; exact Bx4.new _ _ _ _ _ _
        have hsm := eqF_c (SizeOf.sizeOf zeroF + 1) zeroF (Nat.lt_succ_self _) zeroF _ _ _ _ _ _ _ _ wx.heap.size wx (fval_fov (HV.out.below hb)) (fval_fov (lo := 0) (fval_leaf 0 ⟨#[]⟩ (by omega) (ok_str (by decide)))) (Nat.le_refl _)
        rw [zero_e] at hsm
        obtain ⟨d0, d1, d2, d3, _, _, _, _, hdz⟩ := hbx
        have HBX := Lib.hid (HBZ.out.trans (hb.mono HBZ.out.size))
        clear hX hb HV
        go_wp2_with fail
        refine hsm.mono ?_
        rintro e wv ⟨rfl, hbv⟩
        have HBV := Lib.hid (HBX.out.trans (hbv.mono HBX.out.size))
        clear hbv hsm d0 d1 d2 d3 hdz
        go_wp2_with fail
        exact ⟨⟨2, rfl, by omega, by omega, HBV.out⟩, by decide⟩
      · have c0 := (HBR.out.cell (p := ⟨w62.heap.size, 2, none⟩) HG0.out).trans (HC.out 2 _ rfl)
        go_wp2_with fail
        clear c0
        have hb := Below.drew (Below.refl wr.heap.size wr)
        generalize hwd : wr.drew = wd at hb
        have HBD := Lib.hid (HBR.out.trans (hb.mono HBR.out.size))
        clear hb
        refine wp_region_SP (fun c w' => False) (fun c a' w' hd h => h.elim) (fun _ => True) [] 6 #[false, false, false, false, false, false] (by kernel_rfl) (by kernel_rfl) (by kernel_rfl) trivial (fun hHeld => ?_)
        rw [hwd]
        clear hwd hHeld
        refine wpAnyS_take (i := 1) (oi := ⟨some 96, _, _, _, _, _⟩) (v := .int .i64 2) rfl (by kernel_rfl) (by kernel_rfl) (by kernel_rfl) (by kernel_rfl) (fun _ _ _ h => Both.panic h) (Or.inl ⟨by rfl, ?_⟩) trivial ?_
        · intro w' hSw
          obtain _ := hSw
          go_simp
        simp only [Act.put, List.setIfInBounds_toArray, List.set_cons_zero, List.set_cons_succ]
        refine wpAnyS_take (i := 4) (oi := ⟨some 7, _, _, _, _, _⟩) (v := .int .i64 50) rfl (by kernel_rfl) (by kernel_rfl) (by kernel_rfl) (by kernel_rfl) (fun _ _ _ h => Both.panic h) (Or.inl ⟨by rfl, ?_⟩) trivial ?_
        · intro w' hSw
          obtain _ := hSw
          go_simp
        simp only [Act.put, List.setIfInBounds_toArray, List.set_cons_zero, List.set_cons_succ]
        refine wpAnyS_one (i := 0) (oi := ⟨some 95, _, _, _, _, _⟩) rfl (by kernel_rfl) (by rfl) (fun K hK => ?_)
        go_simp
        generalize hX : wd.alloc (.cells #[.int .i64 3, .int .i64 2, .int .i64 4, .int .i64 2, .int .i64 2, .int .i64 2, .int .i64 0, .int .i64 0, .int .i64 0] 3) = wy
        have hb : Below wd.heap.size wd wy := by rw [← hX]; exact (Below.refl _ _).alloc (Nat.le_refl _) _
        have c1 : wy.cell? ⟨wd.heap.size, 2, none⟩ = some (.int .i64 4) := by rw [← hX, World.cell?_alloc_at _ _ _ _ rfl]; rfl
        have HBY := Lib.hid (HBD.out.trans (hb.mono HBD.out.size))
        clear hX hb
        refine hK _ _ (fun _ => trivial) ?_
        clear hK K
        simp only [Act.put, List.setIfInBounds_toArray, List.set_cons_zero, List.set_cons_succ]
        refine wpAnyS_one (i := 2) (oi := ⟨some 97, _, _, _, _, _⟩) rfl (by kernel_rfl) (by rfl) (fun K hK => ?_)
        go_simp
        refine hK _ _ (fun _ => trivial) ?_
        clear hK K
        simp only [Act.put, List.setIfInBounds_toArray, List.set_cons_zero, List.set_cons_succ]
        refine wpAnyS_one (i := 3) (oi := ⟨some 98, _, _, _, _, _⟩) rfl (by kernel_rfl) (by rfl) (fun K hK => ?_)
        go_simp
        refine hK _ _ (fun _ => trivial) ?_
        clear hK K
        simp only [Act.put, List.setIfInBounds_toArray, List.set_cons_zero, List.set_cons_succ]
        refine wpAnyS_one (i := 5) (oi := ⟨some 8, _, _, _, _, _⟩) rfl (by kernel_rfl) (by rfl) (fun K hK => ?_)
        go_simp
        refine hK _ _ (fun _ => trivial) ?_
        clear hK K
        simp only [Act.put, List.setIfInBounds_toArray, List.set_cons_zero, List.set_cons_succ]
        refine wpAnyS_done (by kernel_rfl) ?_
        refine Both.normal ?_
        clear c1
        have hbw := HB.out.trans (HBY.out.mono HB.out.size)
        have hfm := form_c ⟨#[97, 108, 108, 32, 97, 32, 80]⟩ wy (by decide) (HT.out.below hbw HT.out.1) ⟨Nat.lt_of_lt_of_le HL.out.1 hbw.size, (HL.out.keep (hbw.block _ HL.out.1)).2⟩
        rw [bad2_m] at hfm
        clear hbw
        go_wp2_with fail
        refine hfm.mono ?_
        rintro e wz ⟨v, rfl, hv, hbz⟩
        clear hfm
        have HV := Lib.hid (show FVal wy.heap.size wz v zeroF from hv)
        obtain ⟨x2, y2, x3, y3, hve, _⟩ := hv
        have hve : v = .agg #[.int .u8 0, .string ⟨#[]⟩, .slice x2 0 y2, .slice x3 0 y3] := hve
        subst hve
        have HBZ := Lib.hid (HBY.out.trans (hbz.mono HBY.out.size))
        clear hbz
        go_upto_region 12 with fail
        generalize hX : wz.alloc (.cells #[.int .u8 0, .string ⟨#[]⟩, .slice x2 0 y2, .slice x3 0 y3] 25) = wx
        have hb : Below wz.heap.size wz wx := by rw [← hX]; exact (Below.refl _ _).alloc (Nat.le_refl _) _
        have hbx : Bx4 wx wz.heap.size (.int .u8 0) (.string ⟨#[]⟩) (.slice x2 0 y2) (.slice x3 0 y3) := by rw [← hX]; exact Bx4.new _ _ _ _ _ _
        have hsm := eqF_c (SizeOf.sizeOf zeroF + 1) zeroF (Nat.lt_succ_self _) zeroF _ _ _ _ _ _ _ _ wx.heap.size wx (fval_fov (HV.out.below hb)) (fval_fov (lo := 0) (fval_leaf 0 ⟨#[]⟩ (by omega) (ok_str (by decide)))) (Nat.le_refl _)
        rw [zero_e] at hsm
        obtain ⟨d0, d1, d2, d3, _, _, _, _, hdz⟩ := hbx
        have HBX := Lib.hid (HBZ.out.trans (hb.mono HBZ.out.size))
        clear hX hb HV
        go_wp2_with fail
        refine hsm.mono ?_
        rintro e wv ⟨rfl, hbv⟩
        have HBV := Lib.hid (HBX.out.trans (hbv.mono HBX.out.size))
        clear hbv hsm d0 d1 d2 d3 hdz
        go_wp2_with fail
        exact ⟨⟨3, rfl, by omega, by omega, HBV.out⟩, by decide⟩
      · have c0 := (HBR.out.cell (p := ⟨w62.heap.size, 3, none⟩) HG0.out).trans (HC.out 3 _ rfl)
        go_wp2_with fail
        clear c0
        have hb := Below.drew (Below.refl wr.heap.size wr)
        generalize hwd : wr.drew = wd at hb
        have HBD := Lib.hid (HBR.out.trans (hb.mono HBR.out.size))
        clear hb
        refine wp_region_SP (fun c w' => False) (fun c a' w' hd h => h.elim) (fun _ => True) [] 6 #[false, false, false, false, false, false] (by kernel_rfl) (by kernel_rfl) (by kernel_rfl) trivial (fun hHeld => ?_)
        rw [hwd]
        clear hwd hHeld
        refine wpAnyS_take (i := 1) (oi := ⟨some 96, _, _, _, _, _⟩) (v := .int .i64 3) rfl (by kernel_rfl) (by kernel_rfl) (by kernel_rfl) (by kernel_rfl) (fun _ _ _ h => Both.panic h) (Or.inl ⟨by rfl, ?_⟩) trivial ?_
        · intro w' hSw
          obtain _ := hSw
          go_simp
        simp only [Act.put, List.setIfInBounds_toArray, List.set_cons_zero, List.set_cons_succ]
        refine wpAnyS_take (i := 4) (oi := ⟨some 7, _, _, _, _, _⟩) (v := .int .i64 50) rfl (by kernel_rfl) (by kernel_rfl) (by kernel_rfl) (by kernel_rfl) (fun _ _ _ h => Both.panic h) (Or.inl ⟨by rfl, ?_⟩) trivial ?_
        · intro w' hSw
          obtain _ := hSw
          go_simp
        simp only [Act.put, List.setIfInBounds_toArray, List.set_cons_zero, List.set_cons_succ]
        refine wpAnyS_one (i := 0) (oi := ⟨some 95, _, _, _, _, _⟩) rfl (by kernel_rfl) (by rfl) (fun K hK => ?_)
        go_simp
        generalize hX : wd.alloc (.cells #[.int .i64 3, .int .i64 2, .int .i64 4, .int .i64 2, .int .i64 2, .int .i64 2, .int .i64 0, .int .i64 0, .int .i64 0] 3) = wy
        have hb : Below wd.heap.size wd wy := by rw [← hX]; exact (Below.refl _ _).alloc (Nat.le_refl _) _
        have c1 : wy.cell? ⟨wd.heap.size, 3, none⟩ = some (.int .i64 2) := by rw [← hX, World.cell?_alloc_at _ _ _ _ rfl]; rfl
        have HBY := Lib.hid (HBD.out.trans (hb.mono HBD.out.size))
        clear hX hb
        refine hK _ _ (fun _ => trivial) ?_
        clear hK K
        simp only [Act.put, List.setIfInBounds_toArray, List.set_cons_zero, List.set_cons_succ]
        refine wpAnyS_one (i := 2) (oi := ⟨some 97, _, _, _, _, _⟩) rfl (by kernel_rfl) (by rfl) (fun K hK => ?_)
        go_simp
        refine hK _ _ (fun _ => trivial) ?_
        clear hK K
        simp only [Act.put, List.setIfInBounds_toArray, List.set_cons_zero, List.set_cons_succ]
        refine wpAnyS_one (i := 3) (oi := ⟨some 98, _, _, _, _, _⟩) rfl (by kernel_rfl) (by rfl) (fun K hK => ?_)
        go_simp
        refine hK _ _ (fun _ => trivial) ?_
        clear hK K
        simp only [Act.put, List.setIfInBounds_toArray, List.set_cons_zero, List.set_cons_succ]
        refine wpAnyS_one (i := 5) (oi := ⟨some 8, _, _, _, _, _⟩) rfl (by kernel_rfl) (by rfl) (fun K hK => ?_)
        go_simp
        refine hK _ _ (fun _ => trivial) ?_
        clear hK K
        simp only [Act.put, List.setIfInBounds_toArray, List.set_cons_zero, List.set_cons_succ]
        refine wpAnyS_done (by kernel_rfl) ?_
        refine Both.normal ?_
        clear c1
        have hbw := HB.out.trans (HBY.out.mono HB.out.size)
        have hfm := form_c ⟨#[80, 40]⟩ wy (by decide) (HT.out.below hbw HT.out.1) ⟨Nat.lt_of_lt_of_le HL.out.1 hbw.size, (HL.out.keep (hbw.block _ HL.out.1)).2⟩
        rw [bad3_m] at hfm
        clear hbw
        go_wp2_with fail
        refine hfm.mono ?_
        rintro e wz ⟨v, rfl, hv, hbz⟩
        clear hfm
        have HV := Lib.hid (show FVal wy.heap.size wz v zeroF from hv)
        obtain ⟨x2, y2, x3, y3, hve, _⟩ := hv
        have hve : v = .agg #[.int .u8 0, .string ⟨#[]⟩, .slice x2 0 y2, .slice x3 0 y3] := hve
        subst hve
        have HBZ := Lib.hid (HBY.out.trans (hbz.mono HBY.out.size))
        clear hbz
        go_upto_region 12 with fail
        generalize hX : wz.alloc (.cells #[.int .u8 0, .string ⟨#[]⟩, .slice x2 0 y2, .slice x3 0 y3] 25) = wx
        have hb : Below wz.heap.size wz wx := by rw [← hX]; exact (Below.refl _ _).alloc (Nat.le_refl _) _
        have hbx : Bx4 wx wz.heap.size (.int .u8 0) (.string ⟨#[]⟩) (.slice x2 0 y2) (.slice x3 0 y3) := by rw [← hX]; exact Bx4.new _ _ _ _ _ _
        have hsm := eqF_c (SizeOf.sizeOf zeroF + 1) zeroF (Nat.lt_succ_self _) zeroF _ _ _ _ _ _ _ _ wx.heap.size wx (fval_fov (HV.out.below hb)) (fval_fov (lo := 0) (fval_leaf 0 ⟨#[]⟩ (by omega) (ok_str (by decide)))) (Nat.le_refl _)
        rw [zero_e] at hsm
        obtain ⟨d0, d1, d2, d3, _, _, _, _, hdz⟩ := hbx
        have HBX := Lib.hid (HBZ.out.trans (hb.mono HBZ.out.size))
        clear hX hb HV
        go_wp2_with fail
        refine hsm.mono ?_
        rintro e wv ⟨rfl, hbv⟩
        have HBV := Lib.hid (HBX.out.trans (hbv.mono HBX.out.size))
        clear hbv hsm d0 d1 d2 d3 hdz
        go_wp2_with fail
        exact ⟨⟨4, rfl, by omega, by omega, HBV.out⟩, by decide⟩
      · have c0 := (HBR.out.cell (p := ⟨w62.heap.size, 4, none⟩) HG0.out).trans (HC.out 4 _ rfl)
        go_wp2_with fail
        clear c0
        have hb := Below.drew (Below.refl wr.heap.size wr)
        generalize hwd : wr.drew = wd at hb
        have HBD := Lib.hid (HBR.out.trans (hb.mono HBR.out.size))
        clear hb
        refine wp_region_SP (fun c w' => False) (fun c a' w' hd h => h.elim) (fun _ => True) [] 6 #[false, false, false, false, false, false] (by kernel_rfl) (by kernel_rfl) (by kernel_rfl) trivial (fun hHeld => ?_)
        rw [hwd]
        clear hwd hHeld
        refine wpAnyS_take (i := 1) (oi := ⟨some 96, _, _, _, _, _⟩) (v := .int .i64 4) rfl (by kernel_rfl) (by kernel_rfl) (by kernel_rfl) (by kernel_rfl) (fun _ _ _ h => Both.panic h) (Or.inl ⟨by rfl, ?_⟩) trivial ?_
        · intro w' hSw
          obtain _ := hSw
          go_simp
        simp only [Act.put, List.setIfInBounds_toArray, List.set_cons_zero, List.set_cons_succ]
        refine wpAnyS_take (i := 4) (oi := ⟨some 7, _, _, _, _, _⟩) (v := .int .i64 50) rfl (by kernel_rfl) (by kernel_rfl) (by kernel_rfl) (by kernel_rfl) (fun _ _ _ h => Both.panic h) (Or.inl ⟨by rfl, ?_⟩) trivial ?_
        · intro w' hSw
          obtain _ := hSw
          go_simp
        simp only [Act.put, List.setIfInBounds_toArray, List.set_cons_zero, List.set_cons_succ]
        refine wpAnyS_one (i := 0) (oi := ⟨some 95, _, _, _, _, _⟩) rfl (by kernel_rfl) (by rfl) (fun K hK => ?_)
        go_simp
        generalize hX : wd.alloc (.cells #[.int .i64 3, .int .i64 2, .int .i64 4, .int .i64 2, .int .i64 2, .int .i64 2, .int .i64 0, .int .i64 0, .int .i64 0] 3) = wy
        have hb : Below wd.heap.size wd wy := by rw [← hX]; exact (Below.refl _ _).alloc (Nat.le_refl _) _
        have c1 : wy.cell? ⟨wd.heap.size, 4, none⟩ = some (.int .i64 2) := by rw [← hX, World.cell?_alloc_at _ _ _ _ rfl]; rfl
        have HBY := Lib.hid (HBD.out.trans (hb.mono HBD.out.size))
        clear hX hb
        refine hK _ _ (fun _ => trivial) ?_
        clear hK K
        simp only [Act.put, List.setIfInBounds_toArray, List.set_cons_zero, List.set_cons_succ]
        refine wpAnyS_one (i := 2) (oi := ⟨some 97, _, _, _, _, _⟩) rfl (by kernel_rfl) (by rfl) (fun K hK => ?_)
        go_simp
        refine hK _ _ (fun _ => trivial) ?_
        clear hK K
        simp only [Act.put, List.setIfInBounds_toArray, List.set_cons_zero, List.set_cons_succ]
        refine wpAnyS_one (i := 3) (oi := ⟨some 98, _, _, _, _, _⟩) rfl (by kernel_rfl) (by rfl) (fun K hK => ?_)
        go_simp
        refine hK _ _ (fun _ => trivial) ?_
        clear hK K
        simp only [Act.put, List.setIfInBounds_toArray, List.set_cons_zero, List.set_cons_succ]
        refine wpAnyS_one (i := 5) (oi := ⟨some 8, _, _, _, _, _⟩) rfl (by kernel_rfl) (by rfl) (fun K hK => ?_)
        go_simp
        refine hK _ _ (fun _ => trivial) ?_
        clear hK K
        simp only [Act.put, List.setIfInBounds_toArray, List.set_cons_zero, List.set_cons_succ]
        refine wpAnyS_done (by kernel_rfl) ?_
        refine Both.normal ?_
        clear c1
        have hbw := HB.out.trans (HBY.out.mono HB.out.size)
        have hfm := form_c ⟨#[80, 40, 41]⟩ wy (by decide) (HT.out.below hbw HT.out.1) ⟨Nat.lt_of_lt_of_le HL.out.1 hbw.size, (HL.out.keep (hbw.block _ HL.out.1)).2⟩
        rw [bad4_m] at hfm
        clear hbw
        go_wp2_with fail
        refine hfm.mono ?_
        rintro e wz ⟨v, rfl, hv, hbz⟩
        clear hfm
        have HV := Lib.hid (show FVal wy.heap.size wz v zeroF from hv)
        obtain ⟨x2, y2, x3, y3, hve, _⟩ := hv
        have hve : v = .agg #[.int .u8 0, .string ⟨#[]⟩, .slice x2 0 y2, .slice x3 0 y3] := hve
        subst hve
        have HBZ := Lib.hid (HBY.out.trans (hbz.mono HBY.out.size))
        clear hbz
        go_upto_region 12 with fail
        generalize hX : wz.alloc (.cells #[.int .u8 0, .string ⟨#[]⟩, .slice x2 0 y2, .slice x3 0 y3] 25) = wx
        have hb : Below wz.heap.size wz wx := by rw [← hX]; exact (Below.refl _ _).alloc (Nat.le_refl _) _
        have hbx : Bx4 wx wz.heap.size (.int .u8 0) (.string ⟨#[]⟩) (.slice x2 0 y2) (.slice x3 0 y3) := by rw [← hX]; exact Bx4.new _ _ _ _ _ _
        have hsm := eqF_c (SizeOf.sizeOf zeroF + 1) zeroF (Nat.lt_succ_self _) zeroF _ _ _ _ _ _ _ _ wx.heap.size wx (fval_fov (HV.out.below hb)) (fval_fov (lo := 0) (fval_leaf 0 ⟨#[]⟩ (by omega) (ok_str (by decide)))) (Nat.le_refl _)
        rw [zero_e] at hsm
        obtain ⟨d0, d1, d2, d3, _, _, _, _, hdz⟩ := hbx
        have HBX := Lib.hid (HBZ.out.trans (hb.mono HBZ.out.size))
        clear hX hb HV
        go_wp2_with fail
        refine hsm.mono ?_
        rintro e wv ⟨rfl, hbv⟩
        have HBV := Lib.hid (HBX.out.trans (hbv.mono HBX.out.size))
        clear hbv hsm d0 d1 d2 d3 hdz
        go_wp2_with fail
        exact ⟨⟨5, rfl, by omega, by omega, HBV.out⟩, by decide⟩
      · have c0 := (HBR.out.cell (p := ⟨w62.heap.size, 5, none⟩) HG0.out).trans (HC.out 5 _ rfl)
        go_wp2_with fail
        clear c0
        have hb := Below.drew (Below.refl wr.heap.size wr)
        generalize hwd : wr.drew = wd at hb
        have HBD := Lib.hid (HBR.out.trans (hb.mono HBR.out.size))
        clear hb
        refine wp_region_SP (fun c w' => False) (fun c a' w' hd h => h.elim) (fun _ => True) [] 6 #[false, false, false, false, false, false] (by kernel_rfl) (by kernel_rfl) (by kernel_rfl) trivial (fun hHeld => ?_)
        rw [hwd]
        clear hwd hHeld
        refine wpAnyS_take (i := 1) (oi := ⟨some 96, _, _, _, _, _⟩) (v := .int .i64 5) rfl (by kernel_rfl) (by kernel_rfl) (by kernel_rfl) (by kernel_rfl) (fun _ _ _ h => Both.panic h) (Or.inl ⟨by rfl, ?_⟩) trivial ?_
        · intro w' hSw
          obtain _ := hSw
          go_simp
        simp only [Act.put, List.setIfInBounds_toArray, List.set_cons_zero, List.set_cons_succ]
        refine wpAnyS_take (i := 4) (oi := ⟨some 7, _, _, _, _, _⟩) (v := .int .i64 50) rfl (by kernel_rfl) (by kernel_rfl) (by kernel_rfl) (by kernel_rfl) (fun _ _ _ h => Both.panic h) (Or.inl ⟨by rfl, ?_⟩) trivial ?_
        · intro w' hSw
          obtain _ := hSw
          go_simp
        simp only [Act.put, List.setIfInBounds_toArray, List.set_cons_zero, List.set_cons_succ]
        refine wpAnyS_one (i := 0) (oi := ⟨some 95, _, _, _, _, _⟩) rfl (by kernel_rfl) (by rfl) (fun K hK => ?_)
        go_simp
        generalize hX : wd.alloc (.cells #[.int .i64 3, .int .i64 2, .int .i64 4, .int .i64 2, .int .i64 2, .int .i64 2, .int .i64 0, .int .i64 0, .int .i64 0] 3) = wy
        have hb : Below wd.heap.size wd wy := by rw [← hX]; exact (Below.refl _ _).alloc (Nat.le_refl _) _
        have c1 : wy.cell? ⟨wd.heap.size, 5, none⟩ = some (.int .i64 2) := by rw [← hX, World.cell?_alloc_at _ _ _ _ rfl]; rfl
        have HBY := Lib.hid (HBD.out.trans (hb.mono HBD.out.size))
        clear hX hb
        refine hK _ _ (fun _ => trivial) ?_
        clear hK K
        simp only [Act.put, List.setIfInBounds_toArray, List.set_cons_zero, List.set_cons_succ]
        refine wpAnyS_one (i := 2) (oi := ⟨some 97, _, _, _, _, _⟩) rfl (by kernel_rfl) (by rfl) (fun K hK => ?_)
        go_simp
        refine hK _ _ (fun _ => trivial) ?_
        clear hK K
        simp only [Act.put, List.setIfInBounds_toArray, List.set_cons_zero, List.set_cons_succ]
        refine wpAnyS_one (i := 3) (oi := ⟨some 98, _, _, _, _, _⟩) rfl (by kernel_rfl) (by rfl) (fun K hK => ?_)
        go_simp
        refine hK _ _ (fun _ => trivial) ?_
        clear hK K
        simp only [Act.put, List.setIfInBounds_toArray, List.set_cons_zero, List.set_cons_succ]
        refine wpAnyS_one (i := 5) (oi := ⟨some 8, _, _, _, _, _⟩) rfl (by kernel_rfl) (by rfl) (fun K hK => ?_)
        go_simp
        refine hK _ _ (fun _ => trivial) ?_
        clear hK K
        simp only [Act.put, List.setIfInBounds_toArray, List.set_cons_zero, List.set_cons_succ]
        refine wpAnyS_done (by kernel_rfl) ?_
        refine Both.normal ?_
        clear c1
        have hbw := HB.out.trans (HBY.out.mono HB.out.size)
        have hfm := form_c ⟨#[40, 80]⟩ wy (by decide) (HT.out.below hbw HT.out.1) ⟨Nat.lt_of_lt_of_le HL.out.1 hbw.size, (HL.out.keep (hbw.block _ HL.out.1)).2⟩
        rw [bad5_m] at hfm
        clear hbw
        go_wp2_with fail
        refine hfm.mono ?_
        rintro e wz ⟨v, rfl, hv, hbz⟩
        clear hfm
        have HV := Lib.hid (show FVal wy.heap.size wz v zeroF from hv)
        obtain ⟨x2, y2, x3, y3, hve, _⟩ := hv
        have hve : v = .agg #[.int .u8 0, .string ⟨#[]⟩, .slice x2 0 y2, .slice x3 0 y3] := hve
        subst hve
        have HBZ := Lib.hid (HBY.out.trans (hbz.mono HBY.out.size))
        clear hbz
        go_upto_region 12 with fail
        generalize hX : wz.alloc (.cells #[.int .u8 0, .string ⟨#[]⟩, .slice x2 0 y2, .slice x3 0 y3] 25) = wx
        have hb : Below wz.heap.size wz wx := by rw [← hX]; exact (Below.refl _ _).alloc (Nat.le_refl _) _
        have hbx : Bx4 wx wz.heap.size (.int .u8 0) (.string ⟨#[]⟩) (.slice x2 0 y2) (.slice x3 0 y3) := by rw [← hX]; exact Bx4.new _ _ _ _ _ _
        have hsm := eqF_c (SizeOf.sizeOf zeroF + 1) zeroF (Nat.lt_succ_self _) zeroF _ _ _ _ _ _ _ _ wx.heap.size wx (fval_fov (HV.out.below hb)) (fval_fov (lo := 0) (fval_leaf 0 ⟨#[]⟩ (by omega) (ok_str (by decide)))) (Nat.le_refl _)
        rw [zero_e] at hsm
        obtain ⟨d0, d1, d2, d3, _, _, _, _, hdz⟩ := hbx
        have HBX := Lib.hid (HBZ.out.trans (hb.mono HBZ.out.size))
        clear hX hb HV
        go_wp2_with fail
        refine hsm.mono ?_
        rintro e wv ⟨rfl, hbv⟩
        have HBV := Lib.hid (HBX.out.trans (hbv.mono HBX.out.size))
        clear hbv hsm d0 d1 d2 d3 hdz
        go_wp2_with fail
        exact ⟨⟨6, rfl, by omega, by omega, HBV.out⟩, by decide⟩
      · have c0 := (HBR.out.cell (p := ⟨w62.heap.size, 6, none⟩) HG0.out).trans (HC.out 6 _ rfl)
        go_wp2_with fail
        clear c0
        have hb := Below.drew (Below.refl wr.heap.size wr)
        generalize hwd : wr.drew = wd at hb
        have HBD := Lib.hid (HBR.out.trans (hb.mono HBR.out.size))
        clear hb
        refine wp_region_SP (fun c w' => False) (fun c a' w' hd h => h.elim) (fun _ => True) [] 6 #[false, false, false, false, false, false] (by kernel_rfl) (by kernel_rfl) (by kernel_rfl) trivial (fun hHeld => ?_)
        rw [hwd]
        clear hwd hHeld
        refine wpAnyS_take (i := 1) (oi := ⟨some 96, _, _, _, _, _⟩) (v := .int .i64 6) rfl (by kernel_rfl) (by kernel_rfl) (by kernel_rfl) (by kernel_rfl) (fun _ _ _ h => Both.panic h) (Or.inl ⟨by rfl, ?_⟩) trivial ?_
        · intro w' hSw
          obtain _ := hSw
          go_simp
        simp only [Act.put, List.setIfInBounds_toArray, List.set_cons_zero, List.set_cons_succ]
        refine wpAnyS_take (i := 4) (oi := ⟨some 7, _, _, _, _, _⟩) (v := .int .i64 50) rfl (by kernel_rfl) (by kernel_rfl) (by kernel_rfl) (by kernel_rfl) (fun _ _ _ h => Both.panic h) (Or.inl ⟨by rfl, ?_⟩) trivial ?_
        · intro w' hSw
          obtain _ := hSw
          go_simp
        simp only [Act.put, List.setIfInBounds_toArray, List.set_cons_zero, List.set_cons_succ]
        refine wpAnyS_one (i := 0) (oi := ⟨some 95, _, _, _, _, _⟩) rfl (by kernel_rfl) (by rfl) (fun K hK => ?_)
        go_simp
        generalize hX : wd.alloc (.cells #[.int .i64 3, .int .i64 2, .int .i64 4, .int .i64 2, .int .i64 2, .int .i64 2, .int .i64 0, .int .i64 0, .int .i64 0] 3) = wy
        have hb : Below wd.heap.size wd wy := by rw [← hX]; exact (Below.refl _ _).alloc (Nat.le_refl _) _
        have c1 : wy.cell? ⟨wd.heap.size, 6, none⟩ = some (.int .i64 0) := by rw [← hX, World.cell?_alloc_at _ _ _ _ rfl]; rfl
        have HBY := Lib.hid (HBD.out.trans (hb.mono HBD.out.size))
        clear hX hb
        refine hK _ _ (fun _ => trivial) ?_
        clear hK K
        simp only [Act.put, List.setIfInBounds_toArray, List.set_cons_zero, List.set_cons_succ]
        refine wpAnyS_one (i := 2) (oi := ⟨some 97, _, _, _, _, _⟩) rfl (by kernel_rfl) (by rfl) (fun K hK => ?_)
        go_simp
        refine hK _ _ (fun _ => trivial) ?_
        clear hK K
        simp only [Act.put, List.setIfInBounds_toArray, List.set_cons_zero, List.set_cons_succ]
        refine wpAnyS_one (i := 3) (oi := ⟨some 98, _, _, _, _, _⟩) rfl (by kernel_rfl) (by rfl) (fun K hK => ?_)
        go_simp
        refine hK _ _ (fun _ => trivial) ?_
        clear hK K
        simp only [Act.put, List.setIfInBounds_toArray, List.set_cons_zero, List.set_cons_succ]
        refine wpAnyS_one (i := 5) (oi := ⟨some 8, _, _, _, _, _⟩) rfl (by kernel_rfl) (by rfl) (fun K hK => ?_)
        go_simp
        refine hK _ _ (fun _ => trivial) ?_
        clear hK K
        simp only [Act.put, List.setIfInBounds_toArray, List.set_cons_zero, List.set_cons_succ]
        refine wpAnyS_done (by kernel_rfl) ?_
        refine Both.normal ?_
        clear c1
        have hbw := HB.out.trans (HBY.out.mono HB.out.size)
        have hfm := form_c ⟨#[63, 65]⟩ wy (by decide) (HT.out.below hbw HT.out.1) ⟨Nat.lt_of_lt_of_le HL.out.1 hbw.size, (HL.out.keep (hbw.block _ HL.out.1)).2⟩
        rw [bad6_m] at hfm
        clear hbw
        go_wp2_with fail
        refine hfm.mono ?_
        rintro e wz ⟨v, rfl, hv, hbz⟩
        clear hfm
        have HV := Lib.hid (show FVal wy.heap.size wz v zeroF from hv)
        obtain ⟨x2, y2, x3, y3, hve, _⟩ := hv
        have hve : v = .agg #[.int .u8 0, .string ⟨#[]⟩, .slice x2 0 y2, .slice x3 0 y3] := hve
        subst hve
        have HBZ := Lib.hid (HBY.out.trans (hbz.mono HBY.out.size))
        clear hbz
        go_upto_region 12 with fail
        generalize hX : wz.alloc (.cells #[.int .u8 0, .string ⟨#[]⟩, .slice x2 0 y2, .slice x3 0 y3] 25) = wx
        have hb : Below wz.heap.size wz wx := by rw [← hX]; exact (Below.refl _ _).alloc (Nat.le_refl _) _
        have hbx : Bx4 wx wz.heap.size (.int .u8 0) (.string ⟨#[]⟩) (.slice x2 0 y2) (.slice x3 0 y3) := by rw [← hX]; exact Bx4.new _ _ _ _ _ _
        have hsm := eqF_c (SizeOf.sizeOf zeroF + 1) zeroF (Nat.lt_succ_self _) zeroF _ _ _ _ _ _ _ _ wx.heap.size wx (fval_fov (HV.out.below hb)) (fval_fov (lo := 0) (fval_leaf 0 ⟨#[]⟩ (by omega) (ok_str (by decide)))) (Nat.le_refl _)
        rw [zero_e] at hsm
        obtain ⟨d0, d1, d2, d3, _, _, _, _, hdz⟩ := hbx
        have HBX := Lib.hid (HBZ.out.trans (hb.mono HBZ.out.size))
        clear hX hb HV
        go_wp2_with fail
        refine hsm.mono ?_
        rintro e wv ⟨rfl, hbv⟩
        have HBV := Lib.hid (HBX.out.trans (hbv.mono HBX.out.size))
        clear hbv hsm d0 d1 d2 d3 hdz
        go_wp2_with fail
        exact ⟨⟨7, rfl, by omega, by omega, HBV.out⟩, by decide⟩
      · have c0 := (HBR.out.cell (p := ⟨w62.heap.size, 7, none⟩) HG0.out).trans (HC.out 7 _ rfl)
        go_wp2_with fail
        clear c0
        have hb := Below.drew (Below.refl wr.heap.size wr)
        generalize hwd : wr.drew = wd at hb
        have HBD := Lib.hid (HBR.out.trans (hb.mono HBR.out.size))
        clear hb
        refine wp_region_SP (fun c w' => False) (fun c a' w' hd h => h.elim) (fun _ => True) [] 6 #[false, false, false, false, false, false] (by kernel_rfl) (by kernel_rfl) (by kernel_rfl) trivial (fun hHeld => ?_)
        rw [hwd]
        clear hwd hHeld
        refine wpAnyS_take (i := 1) (oi := ⟨some 96, _, _, _, _, _⟩) (v := .int .i64 7) rfl (by kernel_rfl) (by kernel_rfl) (by kernel_rfl) (by kernel_rfl) (fun _ _ _ h => Both.panic h) (Or.inl ⟨by rfl, ?_⟩) trivial ?_
        · intro w' hSw
          obtain _ := hSw
          go_simp
        simp only [Act.put, List.setIfInBounds_toArray, List.set_cons_zero, List.set_cons_succ]
        refine wpAnyS_take (i := 4) (oi := ⟨some 7, _, _, _, _, _⟩) (v := .int .i64 50) rfl (by kernel_rfl) (by kernel_rfl) (by kernel_rfl) (by kernel_rfl) (fun _ _ _ h => Both.panic h) (Or.inl ⟨by rfl, ?_⟩) trivial ?_
        · intro w' hSw
          obtain _ := hSw
          go_simp
        simp only [Act.put, List.setIfInBounds_toArray, List.set_cons_zero, List.set_cons_succ]
        refine wpAnyS_one (i := 0) (oi := ⟨some 95, _, _, _, _, _⟩) rfl (by kernel_rfl) (by rfl) (fun K hK => ?_)
        go_simp
        generalize hX : wd.alloc (.cells #[.int .i64 3, .int .i64 2, .int .i64 4, .int .i64 2, .int .i64 2, .int .i64 2, .int .i64 0, .int .i64 0, .int .i64 0] 3) = wy
        have hb : Below wd.heap.size wd wy := by rw [← hX]; exact (Below.refl _ _).alloc (Nat.le_refl _) _
        have c1 : wy.cell? ⟨wd.heap.size, 7, none⟩ = some (.int .i64 0) := by rw [← hX, World.cell?_alloc_at _ _ _ _ rfl]; rfl
        have HBY := Lib.hid (HBD.out.trans (hb.mono HBD.out.size))
        clear hX hb
        refine hK _ _ (fun _ => trivial) ?_
        clear hK K
        simp only [Act.put, List.setIfInBounds_toArray, List.set_cons_zero, List.set_cons_succ]
        refine wpAnyS_one (i := 2) (oi := ⟨some 97, _, _, _, _, _⟩) rfl (by kernel_rfl) (by rfl) (fun K hK => ?_)
        go_simp
        refine hK _ _ (fun _ => trivial) ?_
        clear hK K
        simp only [Act.put, List.setIfInBounds_toArray, List.set_cons_zero, List.set_cons_succ]
        refine wpAnyS_one (i := 3) (oi := ⟨some 98, _, _, _, _, _⟩) rfl (by kernel_rfl) (by rfl) (fun K hK => ?_)
        go_simp
        refine hK _ _ (fun _ => trivial) ?_
        clear hK K
        simp only [Act.put, List.setIfInBounds_toArray, List.set_cons_zero, List.set_cons_succ]
        refine wpAnyS_one (i := 5) (oi := ⟨some 8, _, _, _, _, _⟩) rfl (by kernel_rfl) (by rfl) (fun K hK => ?_)
        go_simp
        refine hK _ _ (fun _ => trivial) ?_
        clear hK K
        simp only [Act.put, List.setIfInBounds_toArray, List.set_cons_zero, List.set_cons_succ]
        refine wpAnyS_done (by kernel_rfl) ?_
        refine Both.normal ?_
        clear c1
        have hbw := HB.out.trans (HBY.out.mono HB.out.size)
        have hfm := form_c ⟨#[80, 40, 97, 44, 32, 97, 44, 32, 97, 44, 32, 97, 44, 32, 97, 41]⟩ wy (by decide) (HT.out.below hbw HT.out.1) ⟨Nat.lt_of_lt_of_le HL.out.1 hbw.size, (HL.out.keep (hbw.block _ HL.out.1)).2⟩
        rw [bad7_m] at hfm
        clear hbw
        go_wp2_with fail
        refine hfm.mono ?_
        rintro e wz ⟨v, rfl, hv, hbz⟩
        clear hfm
        have HV := Lib.hid (show FVal wy.heap.size wz v zeroF from hv)
        obtain ⟨x2, y2, x3, y3, hve, _⟩ := hv
        have hve : v = .agg #[.int .u8 0, .string ⟨#[]⟩, .slice x2 0 y2, .slice x3 0 y3] := hve
        subst hve
        have HBZ := Lib.hid (HBY.out.trans (hbz.mono HBY.out.size))
        clear hbz
        go_upto_region 12 with fail
        generalize hX : wz.alloc (.cells #[.int .u8 0, .string ⟨#[]⟩, .slice x2 0 y2, .slice x3 0 y3] 25) = wx
        have hb : Below wz.heap.size wz wx := by rw [← hX]; exact (Below.refl _ _).alloc (Nat.le_refl _) _
        have hbx : Bx4 wx wz.heap.size (.int .u8 0) (.string ⟨#[]⟩) (.slice x2 0 y2) (.slice x3 0 y3) := by rw [← hX]; exact Bx4.new _ _ _ _ _ _
        have hsm := eqF_c (SizeOf.sizeOf zeroF + 1) zeroF (Nat.lt_succ_self _) zeroF _ _ _ _ _ _ _ _ wx.heap.size wx (fval_fov (HV.out.below hb)) (fval_fov (lo := 0) (fval_leaf 0 ⟨#[]⟩ (by omega) (ok_str (by decide)))) (Nat.le_refl _)
        rw [zero_e] at hsm
        obtain ⟨d0, d1, d2, d3, _, _, _, _, hdz⟩ := hbx
        have HBX := Lib.hid (HBZ.out.trans (hb.mono HBZ.out.size))
        clear hX hb HV
        go_wp2_with fail
        refine hsm.mono ?_
        rintro e wv ⟨rfl, hbv⟩
        have HBV := Lib.hid (HBX.out.trans (hbv.mono HBX.out.size))
        clear hbv hsm d0 d1 d2 d3 hdz
        go_wp2_with fail
        exact ⟨⟨8, rfl, by omega, by omega, HBV.out⟩, by decide⟩
      · have c0 := (HBR.out.cell (p := ⟨w62.heap.size, 8, none⟩) HG0.out).trans (HC.out 8 _ rfl)
        go_wp2_with fail
        clear c0
        have hb := Below.drew (Below.refl wr.heap.size wr)
        generalize hwd : wr.drew = wd at hb
        have HBD := Lib.hid (HBR.out.trans (hb.mono HBR.out.size))
        clear hb
        refine wp_region_SP (fun c w' => False) (fun c a' w' hd h => h.elim) (fun _ => True) [] 6 #[false, false, false, false, false, false] (by kernel_rfl) (by kernel_rfl) (by kernel_rfl) trivial (fun hHeld => ?_)
        rw [hwd]
        clear hwd hHeld
        refine wpAnyS_take (i := 1) (oi := ⟨some 96, _, _, _, _, _⟩) (v := .int .i64 8) rfl (by kernel_rfl) (by kernel_rfl) (by kernel_rfl) (by kernel_rfl) (fun _ _ _ h => Both.panic h) (Or.inl ⟨by rfl, ?_⟩) trivial ?_
        · intro w' hSw
          obtain _ := hSw
          go_simp
        simp only [Act.put, List.setIfInBounds_toArray, List.set_cons_zero, List.set_cons_succ]
        refine wpAnyS_take (i := 4) (oi := ⟨some 7, _, _, _, _, _⟩) (v := .int .i64 50) rfl (by kernel_rfl) (by kernel_rfl) (by kernel_rfl) (by kernel_rfl) (fun _ _ _ h => Both.panic h) (Or.inl ⟨by rfl, ?_⟩) trivial ?_
        · intro w' hSw
          obtain _ := hSw
          go_simp
        simp only [Act.put, List.setIfInBounds_toArray, List.set_cons_zero, List.set_cons_succ]
        refine wpAnyS_one (i := 0) (oi := ⟨some 95, _, _, _, _, _⟩) rfl (by kernel_rfl) (by rfl) (fun K hK => ?_)
        go_simp
        generalize hX : wd.alloc (.cells #[.int .i64 3, .int .i64 2, .int .i64 4, .int .i64 2, .int .i64 2, .int .i64 2, .int .i64 0, .int .i64 0, .int .i64 0] 3) = wy
        have hb : Below wd.heap.size wd wy := by rw [← hX]; exact (Below.refl _ _).alloc (Nat.le_refl _) _
        have c1 : wy.cell? ⟨wd.heap.size, 8, none⟩ = some (.int .i64 0) := by rw [← hX, World.cell?_alloc_at _ _ _ _ rfl]; rfl
        have HBY := Lib.hid (HBD.out.trans (hb.mono HBD.out.size))
        clear hX hb
        refine hK _ _ (fun _ => trivial) ?_
        clear hK K
        simp only [Act.put, List.setIfInBounds_toArray, List.set_cons_zero, List.set_cons_succ]
        refine wpAnyS_one (i := 2) (oi := ⟨some 97, _, _, _, _, _⟩) rfl (by kernel_rfl) (by rfl) (fun K hK => ?_)
        go_simp
        refine hK _ _ (fun _ => trivial) ?_
        clear hK K
        simp only [Act.put, List.setIfInBounds_toArray, List.set_cons_zero, List.set_cons_succ]
        refine wpAnyS_one (i := 3) (oi := ⟨some 98, _, _, _, _, _⟩) rfl (by kernel_rfl) (by rfl) (fun K hK => ?_)
        go_simp
        refine hK _ _ (fun _ => trivial) ?_
        clear hK K
        simp only [Act.put, List.setIfInBounds_toArray, List.set_cons_zero, List.set_cons_succ]
        refine wpAnyS_one (i := 5) (oi := ⟨some 8, _, _, _, _, _⟩) rfl (by kernel_rfl) (by rfl) (fun K hK => ?_)
        go_simp
        refine hK _ _ (fun _ => trivial) ?_
        clear hK K
        simp only [Act.put, List.setIfInBounds_toArray, List.set_cons_zero, List.set_cons_succ]
        refine wpAnyS_done (by kernel_rfl) ?_
        refine Both.normal ?_
        clear c1
        have hbw := HB.out.trans (HBY.out.mono HB.out.size)
        have hfm := form_c ⟨#[]⟩ wy (by decide) (HT.out.below hbw HT.out.1) ⟨Nat.lt_of_lt_of_le HL.out.1 hbw.size, (HL.out.keep (hbw.block _ HL.out.1)).2⟩
        rw [bad8_m] at hfm
        clear hbw
        go_wp2_with fail
        refine hfm.mono ?_
        rintro e wz ⟨v, rfl, hv, hbz⟩
        clear hfm
        have HV := Lib.hid (show FVal wy.heap.size wz v zeroF from hv)
        obtain ⟨x2, y2, x3, y3, hve, _⟩ := hv
        have hve : v = .agg #[.int .u8 0, .string ⟨#[]⟩, .slice x2 0 y2, .slice x3 0 y3] := hve
        subst hve
        have HBZ := Lib.hid (HBY.out.trans (hbz.mono HBY.out.size))
        clear hbz
        go_upto_region 12 with fail
        generalize hX : wz.alloc (.cells #[.int .u8 0, .string ⟨#[]⟩, .slice x2 0 y2, .slice x3 0 y3] 25) = wx
        have hb : Below wz.heap.size wz wx := by rw [← hX]; exact (Below.refl _ _).alloc (Nat.le_refl _) _
        have hbx : Bx4 wx wz.heap.size (.int .u8 0) (.string ⟨#[]⟩) (.slice x2 0 y2) (.slice x3 0 y3) := by rw [← hX]; exact Bx4.new _ _ _ _ _ _
        have hsm := eqF_c (SizeOf.sizeOf zeroF + 1) zeroF (Nat.lt_succ_self _) zeroF _ _ _ _ _ _ _ _ wx.heap.size wx (fval_fov (HV.out.below hb)) (fval_fov (lo := 0) (fval_leaf 0 ⟨#[]⟩ (by omega) (ok_str (by decide)))) (Nat.le_refl _)
        rw [zero_e] at hsm
        obtain ⟨d0, d1, d2, d3, _, _, _, _, hdz⟩ := hbx
        have HBX := Lib.hid (HBZ.out.trans (hb.mono HBZ.out.size))
        clear hX hb HV
        go_wp2_with fail
        refine hsm.mono ?_
        rintro e wv ⟨rfl, hbv⟩
        have HBV := Lib.hid (HBX.out.trans (hbv.mono HBX.out.size))
        clear hbv hsm d0 d1 d2 d3 hdz
        go_wp2_with fail
        exact ⟨⟨9, rfl, by omega, by omega, HBV.out⟩, by decide⟩
    · obtain rfl : k = 9 := by omega
      clear h0 h9 hk9
      go_wp2_with fail
      rw [HQ.out]
      exact ⟨rfl, HB.out.trans (HBR.out.mono HB.out.size)⟩
end Go.Proofs.YtkeckecdhcknhaaDoor.Ps

/-
  The statements' own makers of terms and formulas; what they make, as it lies in memory.
-/
import Derived.Test.YtdapnjnmhkdnpaaDoorFtWrites
import Derived.Test.YtdapnjnmhkdnpaaDoorPsRK
namespace Go.Proofs.YtdapnjnmhkdnpaaDoor.Fb
open Go Go.RowKit Go.Shelf Go.Proofs.YtdapnjnmhkdnpaaDoor.Fm Go.Proofs.YtdapnjnmhkdnpaaDoor.Lx Go.Proofs.YtdapnjnmhkdnpaaDoor.Ps Go.Proofs.YtdapnjnmhkdnpaaDoor.Ft
set_option linter.unusedVariables false
set_option linter.unusedSimpArgs false
theorem v_c (n : ByteArray) (W : World) : Calls Tryd.prog 21 #[.string n] W fun e w' => e = .returned (.agg #[.bool true, .string n, .slice none 0 0]) ∧ Below W.heap.size W w' := by
  go_enter Tryd.func21, Tryd.ntmps21
  go_wp2_with fail
  refine bodyPost_ret (v := .agg #[.bool true, .string n, .slice none 0 0]) (by simp [results, Tryd.results21, go_sem]) rfl ?_
  exact ⟨rfl, (Below.refl _ _).alloc (Nat.le_refl _) _⟩
theorem k_c (n : ByteArray) (a : Option Addr) (l c : Nat) (W : World) : Calls Tryd.prog 20 #[.string n, .slice a l c] W fun e w' => e = .returned (.agg #[.bool false, .string n, .slice a l c]) ∧ Below W.heap.size W w' := by
  go_enter Tryd.func20, Tryd.ntmps20
  go_wp2_with fail
  refine bodyPost_ret (v := .agg #[.bool false, .string n, .slice a l c]) (by simp [results, Tryd.results20, go_sem]) rfl ?_
  exact ⟨rfl, (Below.refl _ _).alloc (Nat.le_refl _) _⟩
theorem p_c (n : ByteArray) (a : Option Addr) (l c : Nat) (W : World) : Calls Tryd.prog 16 #[.string n, .slice a l c] W fun e w' => e = .returned (.agg #[.int .u8 1, .string n, .slice a l c, .slice none 0 0]) ∧ Below W.heap.size W w' := by
  go_enter Tryd.func16, Tryd.ntmps16
  go_wp2_with fail
  refine bodyPost_ret (v := .agg #[.int .u8 1, .string n, .slice a l c, .slice none 0 0]) (by simp [results, Tryd.results16, go_sem]) rfl ?_
  exact ⟨rfl, (Below.refl _ _).alloc (Nat.le_refl _) _⟩
theorem of_c (o : Int) (n : ByteArray) (a : Option Addr) (l c : Nat) (W : World) : Calls Tryd.prog 17 #[.int .u8 o, .string n, .slice a l c] W fun e w' => e = .returned (.agg #[.int .u8 o, .string n, .slice none 0 0, .slice a l c]) ∧ Below W.heap.size W w' := by
  go_enter Tryd.func17, Tryd.ntmps17
  go_wp2_with fail
  refine bodyPost_ret (v := .agg #[.int .u8 o, .string n, .slice none 0 0, .slice a l c]) (by simp [results, Tryd.results17, go_sem]) rfl ?_
  exact ⟨rfl, (Below.refl _ _).alloc (Nat.le_refl _) _⟩
/-- A formula, a term of a world. -/
def AF (w : World) (x0 x1 x2 x3 : Value) (f : Fo) : Prop := FoV w.heap.size w x0 x1 x2 x3 f
def AT (w : World) (x0 x1 x2 : Value) (t : Tm) : Prop := TmV w.heap.size w x0 x1 x2 t
theorem AF.below {w w' : World} {x0 x1 x2 x3 : Value} {f : Fo} (h : AF w x0 x1 x2 x3 f) (hb : Below w.heap.size w w') : AF w' x0 x1 x2 x3 f := (FoV.below h hb (Nat.le_refl _)).mono hb.size
theorem nilT (n : Nat) (w : World) : SlT n w (.slice none 0 0) [] := ⟨none, 0, 0, 0, rfl, by simp, .inl rfl, by simp [TsAt]⟩
theorem nilF (n : Nat) (w : World) : SlF n w (.slice none 0 0) [] := ⟨none, 0, 0, 0, rfl, by simp, .inl rfl, by simp [FsAt]⟩
theorem SlT.up {n m : Nat} {w : World} {v : Value} {l : List Tm} (h : SlT n w v l) (hn : n ≤ m) : SlT m w v l := by
  have hf : FoV n w (.int .u8 0) (.string ⟨#[]⟩) v (.slice none 0 0) (.mk 0 ⟨#[]⟩ l []) := ⟨rfl, ⟨Int.le_refl _, by simp [Fo.op]⟩, rfl, Nat.zero_le _, h, nilF _ _⟩
  exact (hf.mono hn).args
theorem AT.below {w w' : World} {x0 x1 x2 : Value} {t : Tm} (h : AT w x0 x1 x2 t) (hb : Below w.heap.size w w') : AT w' x0 x1 x2 t := by
  have h2 := TmV.below h hb (Nat.le_refl _)
  exact ⟨h2.v, h2.nm, h2.ok, SlT.up h2.args hb.size⟩
theorem af_leaf (w : World) (o : Int) (n : ByteArray) (ho : 0 ≤ o ∧ o ≤ 255) (hn : okStr n) : AF w (.int .u8 o) (.string n) (.slice none 0 0) (.slice none 0 0) (.mk o n [] []) := ⟨rfl, ho, rfl, hn, nilT _ _, nilF _ _⟩
theorem af_args {w : World} {v2 : Value} {l : List Tm} (o : Int) (n : ByteArray) (ho : 0 ≤ o ∧ o ≤ 255) (hn : okStr n) (h : SlT w.heap.size w v2 l) : AF w (.int .u8 o) (.string n) v2 (.slice none 0 0) (.mk o n l []) := ⟨rfl, ho, rfl, hn, h, nilF _ _⟩
theorem at_mk {w : World} {v2 : Value} {l : List Tm} (v : Bool) (n : ByteArray) (hn : okStr n) (h : SlT w.heap.size w v2 l) : AT w (.bool v) (.string n) v2 (.mk v n l) := ⟨rfl, rfl, hn, h⟩
theorem slT_1 {w : World} {g : Nat} {t : Tm} {v0 v1 v2 : Value} (hg : g < w.heap.size) (ht : AT w v0 v1 v2 t) (hc : ∀ j u, [v0, v1, v2][j]? = some u → w.cell? ⟨g, j, none⟩ = some u) : SlT w.heap.size w (.slice (some ⟨g, 0, none⟩) 1 1) [t] := by
  obtain ⟨v, nm, args⟩ := t
  obtain ⟨rfl, rfl, hok, a, cap, b', o', rfl, hl, hx, ht⟩ := ht
  refine ⟨some ⟨g, 0, none⟩, 1, g, 0, rfl, by simp, .inr ⟨rfl, hg⟩, ?_⟩
  rw [TsAt]
  exact ⟨⟨hc 0 _ rfl, hc 1 _ rfl, hok, a, cap, b', o', hc 2 _ rfl, hl, hx, ht⟩, by simp [TsAt]⟩
theorem slT_2 {w : World} {g : Nat} {t s : Tm} {v0 v1 v2 y0 y1 y2 : Value} (hg : g < w.heap.size) (ht : AT w v0 v1 v2 t) (hs : AT w y0 y1 y2 s) (hc : ∀ j u, [v0, v1, v2, y0, y1, y2][j]? = some u → w.cell? ⟨g, j, none⟩ = some u) : SlT w.heap.size w (.slice (some ⟨g, 0, none⟩) 2 2) [t, s] := by
  obtain ⟨v, nm, args⟩ := t
  obtain ⟨rfl, rfl, hok, a, cap, b', o', rfl, hl, hx, ht⟩ := ht
  obtain ⟨y, ym, yargs⟩ := s
  obtain ⟨rfl, rfl, hok2, a2, cap2, b2, o2, rfl, hl2, hx2, ht2⟩ := hs
  refine ⟨some ⟨g, 0, none⟩, 2, g, 0, rfl, by simp, .inr ⟨rfl, hg⟩, ?_⟩
  rw [TsAt, TsAt]
  exact ⟨⟨hc 0 _ rfl, hc 1 _ rfl, hok, a, cap, b', o', hc 2 _ rfl, hl, hx, ht⟩, ⟨hc 3 _ rfl, hc 4 _ rfl, hok2, a2, cap2, b2, o2, hc 5 _ rfl, hl2, hx2, ht2⟩, by simp [TsAt]⟩
theorem slF_1 {w : World} {g : Nat} {f : Fo} {x0 x1 x2 x3 : Value} (hg : g < w.heap.size) (hf : AF w x0 x1 x2 x3 f) (hc : ∀ j u, [x0, x1, x2, x3][j]? = some u → w.cell? ⟨g, j, none⟩ = some u) : SlF w.heap.size w (.slice (some ⟨g, 0, none⟩) 1 1) [f] := by
  obtain ⟨op, nm, args, sub⟩ := f
  obtain ⟨rfl, hop, rfl, hok, ⟨a, cap, b', o', rfl, hl, hx, ht⟩, ⟨a', cap', b2, o2, rfl, hl', hx', ht'⟩⟩ := hf
  refine ⟨some ⟨g, 0, none⟩, 1, g, 0, rfl, by simp, .inr ⟨rfl, hg⟩, ?_⟩
  rw [FsAt]
  exact ⟨⟨hc 0 _ rfl, hop, hc 1 _ rfl, hok, ⟨a, cap, b', o', hc 2 _ rfl, hl, hx, ht⟩, ⟨a', cap', b2, o2, hc 3 _ rfl, hl', hx', ht'⟩⟩, by simp [FsAt]⟩
theorem slF_2 {w : World} {g : Nat} {f h : Fo} {x0 x1 x2 x3 y0 y1 y2 y3 : Value} (hg : g < w.heap.size) (hf : AF w x0 x1 x2 x3 f) (hh : AF w y0 y1 y2 y3 h) (hc : ∀ j u, [x0, x1, x2, x3, y0, y1, y2, y3][j]? = some u → w.cell? ⟨g, j, none⟩ = some u) : SlF w.heap.size w (.slice (some ⟨g, 0, none⟩) 2 2) [f, h] := by
  obtain ⟨op, nm, args, sub⟩ := f
  obtain ⟨rfl, hop, rfl, hok, ⟨a, cap, b', o', rfl, hl, hx, ht⟩, ⟨a', cap', b2, o2, rfl, hl', hx', ht'⟩⟩ := hf
  obtain ⟨yop, ynm, yargs, ysub⟩ := h
  obtain ⟨rfl, yhop, rfl, yhok, ⟨ya, ycap, yb', yo', rfl, yhl, yhx, yht⟩, ⟨ya', ycap', yb2, yo2, rfl, yhl', yhx', yht'⟩⟩ := hh
  refine ⟨some ⟨g, 0, none⟩, 2, g, 0, rfl, by simp, .inr ⟨rfl, hg⟩, ?_⟩
  rw [FsAt, FsAt]
  exact ⟨⟨hc 0 _ rfl, hop, hc 1 _ rfl, hok, ⟨a, cap, b', o', hc 2 _ rfl, hl, hx, ht⟩, ⟨a', cap', b2, o2, hc 3 _ rfl, hl', hx', ht'⟩⟩,
    ⟨hc 4 _ rfl, yhop, hc 5 _ rfl, yhok, ⟨ya, ycap, yb', yo', hc 6 _ rfl, yhl, yhx, yht⟩, ⟨ya', ycap', yb2, yo2, hc 7 _ rfl, yhl', yhx', yht'⟩⟩, by simp [FsAt]⟩
theorem af_sub {w : World} {v3 : Value} {l : List Fo} (o : Int) (n : ByteArray) (ho : 0 ≤ o ∧ o ≤ 255) (hn : okStr n) (h : SlF w.heap.size w v3 l) : AF w (.int .u8 o) (.string n) (.slice none 0 0) v3 (.mk o n [] l) := ⟨rfl, ho, rfl, hn, nilT _ _, h⟩
/-- A box with a formula's four fields. -/
structure BxA (w : World) (L : Nat) (x0 x1 x2 x3 : Value) : Prop where
  c0 : w.cell? ⟨L, 0, none⟩ = some x0
  c1 : w.cell? ⟨L, 1, none⟩ = some x1
  c2 : w.cell? ⟨L, 2, none⟩ = some x2
  c3 : w.cell? ⟨L, 3, none⟩ = some x3
  lt : L < w.heap.size
theorem BxA.below {w w' : World} {L : Nat} {x0 x1 x2 x3 : Value} (h : BxA w L x0 x1 x2 x3) (hb : Below w.heap.size w w') : BxA w' L x0 x1 x2 x3 :=
  ⟨(hb.cell (p := ⟨L, 0, none⟩) h.lt).trans h.c0, (hb.cell (p := ⟨L, 1, none⟩) h.lt).trans h.c1, (hb.cell (p := ⟨L, 2, none⟩) h.lt).trans h.c2, (hb.cell (p := ⟨L, 3, none⟩) h.lt).trans h.c3, Nat.lt_of_lt_of_le h.lt hb.size⟩
theorem ok_lit {s : ByteArray} (h : s.size ≤ 100) : okStr s := Nat.le_trans h (by decide)
/-- The chapter's formulas. -/
def fP (c : UInt8) : Fo := .mk 1 ⟨#[c]⟩ [] []
def fI : Fo := .mk 16 ⟨#[63, 65]⟩ [.mk true ⟨#[120]⟩ [], .mk true ⟨#[63, 116]⟩ []] []
def eL : List Fo := [.mk 5 ⟨#[]⟩ [] [fP 80, fP 81], fP 82]
def e0 : Fo := .mk 4 ⟨#[]⟩ [] [.mk 4 ⟨#[]⟩ [] [fP 80, fP 81], fP 82]
def e1 : Fo := .mk 4 ⟨#[]⟩ [] [fP 80, .mk 4 ⟨#[]⟩ [] [fP 81, fP 82]]
def e2 : Fo := .mk 6 ⟨#[]⟩ [] [fP 80, .mk 6 ⟨#[]⟩ [] [fP 81, .mk 3 ⟨#[]⟩ [] [.mk 5 ⟨#[]⟩ [] [fP 82, fP 83]]]]
def e3 : Fo := .mk 8 ⟨#[120]⟩ [] [.mk 6 ⟨#[]⟩ [] [.mk 1 ⟨#[80]⟩ [.mk true ⟨#[120]⟩ [], .mk false ⟨#[102]⟩ [.mk false ⟨#[97]⟩ []]] [], fP 81]]
def e4 : Fo := .mk 14 ⟨#[]⟩ [] [.mk 14 ⟨#[]⟩ [] [fP 80, fP 81], fP 82]
def e5 : Fo := .mk 7 ⟨#[]⟩ [] [.mk 12 ⟨#[]⟩ [] [.mk 10 ⟨#[]⟩ [] [fI]], .mk 2 ⟨#[]⟩ [] []]
theorem pw_cons (o : Int) (n : ByteArray) (a : List Tm) (g : Fo) (r : List Fo) : pwB (.mk o n a (g :: r)) = (sgW o).data.toList :: ((if n.size = 0 then [] else [n.data.toList]) ++ (g :: r).flatMap pwB) := pwB_node (by simp [Fo.sub])
theorem pw_nil (o : Int) (n : ByteArray) (a : List Tm) : pwB (.mk o n a []) = [baB [] (.mk o n a [])] := pwB_leaf rfl
theorem e0_r : rightB true e0 = true := rightK_right (k := 40) (by kernel_rfl)
theorem e0_t : bs (foB brN e0) = ⟨#[80, 32, 38, 32, 81, 32, 38, 32, 82]⟩ := by kernel_rfl
theorem e0_u : bs (foB brB e0) = ⟨#[40, 80, 32, 38, 32, 81, 41, 32, 38, 32, 82]⟩ := by kernel_rfl
theorem e0_x : bs (pfB e0) = ⟨#[38, 32, 38, 32, 80, 32, 81, 32, 82]⟩ := by unfold pfB; simp only [e0, fP, fI, pw_cons, pw_nil, List.flatMap_cons, List.flatMap_nil]; kernel_rfl
theorem e1_r : rightB true e1 = true := rightK_right (k := 40) (by kernel_rfl)
theorem e1_t : bs (foB brN e1) = ⟨#[80, 32, 38, 32, 40, 81, 32, 38, 32, 82, 41]⟩ := by kernel_rfl
theorem e1_u : bs (foB brB e1) = ⟨#[80, 32, 38, 32, 40, 81, 32, 38, 32, 82, 41]⟩ := by kernel_rfl
theorem e1_x : bs (pfB e1) = ⟨#[38, 32, 80, 32, 38, 32, 81, 32, 82]⟩ := by unfold pfB; simp only [e1, fP, fI, pw_cons, pw_nil, List.flatMap_cons, List.flatMap_nil]; kernel_rfl
theorem e2_r : rightB true e2 = true := rightK_right (k := 40) (by kernel_rfl)
theorem e2_t : bs (foB brN e2) = ⟨#[80, 32, 45, 62, 32, 81, 32, 45, 62, 32, 126, 40, 82, 32, 124, 32, 83, 41]⟩ := by kernel_rfl
theorem e2_u : bs (foB brB e2) = ⟨#[80, 32, 45, 62, 32, 40, 81, 32, 45, 62, 32, 126, 40, 82, 32, 124, 32, 83, 41, 41]⟩ := by kernel_rfl
theorem e2_x : bs (pfB e2) = ⟨#[45, 62, 32, 80, 32, 45, 62, 32, 81, 32, 126, 32, 124, 32, 82, 32, 83]⟩ := by unfold pfB; simp only [e2, fP, fI, pw_cons, pw_nil, List.flatMap_cons, List.flatMap_nil]; kernel_rfl
theorem e3_r : rightB true e3 = true := rightK_right (k := 40) (by kernel_rfl)
theorem e3_t : bs (foB brN e3) = ⟨#[97, 108, 108, 32, 120, 32, 40, 80, 40, 120, 44, 32, 102, 40, 97, 41, 41, 32, 45, 62, 32, 81, 41]⟩ := by kernel_rfl
theorem e3_u : bs (foB brB e3) = ⟨#[97, 108, 108, 32, 120, 32, 40, 80, 40, 120, 44, 32, 102, 40, 97, 41, 41, 32, 45, 62, 32, 81, 41]⟩ := by kernel_rfl
theorem e3_x : bs (pfB e3) = ⟨#[97, 108, 108, 32, 120, 32, 45, 62, 32, 80, 40, 120, 44, 102, 40, 97, 41, 41, 32, 81]⟩ := by unfold pfB; simp only [e3, fP, fI, pw_cons, pw_nil, List.flatMap_cons, List.flatMap_nil]; kernel_rfl
theorem e4_r : rightB true e4 = true := rightK_right (k := 40) (by kernel_rfl)
theorem e4_t : bs (foB brN e4) = ⟨#[40, 80, 32, 117, 110, 116, 105, 108, 32, 81, 41, 32, 117, 110, 116, 105, 108, 32, 82]⟩ := by kernel_rfl
theorem e4_u : bs (foB brB e4) = ⟨#[40, 80, 32, 117, 110, 116, 105, 108, 32, 81, 41, 32, 117, 110, 116, 105, 108, 32, 82]⟩ := by kernel_rfl
theorem e4_x : bs (pfB e4) = ⟨#[117, 110, 116, 105, 108, 32, 117, 110, 116, 105, 108, 32, 80, 32, 81, 32, 82]⟩ := by unfold pfB; simp only [e4, fP, fI, pw_cons, pw_nil, List.flatMap_cons, List.flatMap_nil]; kernel_rfl
theorem e5_r : rightB true e5 = true := rightK_right (k := 40) (by kernel_rfl)
theorem e5_t : bs (foB brN e5) = ⟨#[110, 101, 120, 116, 32, 91, 93, 63, 65, 91, 63, 116, 47, 120, 93, 32, 60, 45, 62, 32, 102, 97, 108, 115, 101]⟩ := by kernel_rfl
theorem e5_u : bs (foB brB e5) = ⟨#[110, 101, 120, 116, 32, 91, 93, 63, 65, 91, 63, 116, 47, 120, 93, 32, 60, 45, 62, 32, 102, 97, 108, 115, 101]⟩ := by kernel_rfl
theorem e5_x : bs (pfB e5) = ⟨#[60, 45, 62, 32, 110, 101, 120, 116, 32, 91, 93, 32, 63, 65, 91, 63, 116, 47, 120, 93, 32, 102, 97, 108, 115, 101]⟩ := by unfold pfB; simp only [e5, fP, fI, pw_cons, pw_nil, List.flatMap_cons, List.flatMap_nil]; kernel_rfl
theorem eL_r : (eL.all fun f => rightB true f) = true := by rw [List.all_eq_true]; intro f hf; simp only [eL, List.mem_cons, List.not_mem_nil, or_false] at hf; rcases hf with rfl | rfl <;> exact rightK_right (k := 40) (by kernel_rfl)
theorem eL_t : bs (fsB eL) = ⟨#[80, 32, 124, 32, 81, 44, 32, 82]⟩ := by kernel_rfl
theorem eL_n : (fsB eL).length ≤ 1000000 := of_decide_eq_true (by kernel_rfl)
theorem all_leaf {o : Int} {n : ByteArray} {a : List Tm} {lv : Int} {x : Int × Fo} (hx : x ∈ Fo.all lv (.mk o n a [])) (ho : 0 ≤ o) : 0 ≤ x.2.op := by
  rw [Fo.all_eq] at hx
  simp [Fo.sub] at hx
  rw [hx]
  exact ho
theorem ops_leaf (o : Int) (n : ByteArray) (a : List Tm) (ho : 0 ≤ o) : OpsOk (.mk o n a []) := by
  intro x hx
  rw [Fo.all_eq] at hx
  simp [Fo.sub] at hx
  rw [hx]
  exact ho
theorem eL_o : ∀ f ∈ eL, OpsOk f := by
  intro f hf
  simp only [eL, List.mem_cons, List.not_mem_nil, or_false] at hf
  rcases hf with rfl | rfl
  · intro x hx
    rw [Fo.all_eq] at hx
    simp only [Fo.sub, List.flatMap_cons, List.flatMap_nil, List.mem_cons, List.mem_append, List.append_nil] at hx
    rcases hx with rfl | hx | hx
    · exact (by decide : (0 : Int) ≤ 5)
    · exact all_leaf hx (by decide)
    · exact all_leaf hx (by decide)
  · exact ops_leaf _ _ _ (by decide)
end Go.Proofs.YtdapnjnmhkdnpaaDoor.Fb

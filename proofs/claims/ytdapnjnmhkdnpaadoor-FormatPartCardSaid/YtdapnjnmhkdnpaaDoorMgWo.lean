/-
  Several texts in one: FtWoN, FtWoU, FtWoB, FtWoQ.
-/
import Derived.Test.YtdapnjnmhkdnpaaDoorFtWords

/-
  What words' iterator at a node leans on.
-/
namespace Go.Proofs.YtdapnjnmhkdnpaaDoor.Fb
open Go Go.RowKit Go.Shelf Go.Proofs.YtdapnjnmhkdnpaaDoor.Fm Go.Proofs.YtdapnjnmhkdnpaaDoor.Lx Go.Proofs.YtdapnjnmhkdnpaaDoor.Ps Go.Proofs.YtdapnjnmhkdnpaaDoor.Ft
set_option linter.unusedVariables false
set_option linter.unusedSimpArgs false
theorem STab.below {n : Nat} {w w' : World} (h : STab w) (hb : Below n w w') (hn : w.heap.size ≤ n := by omega) : STab w' := h.keep (hb.block _ (Nat.lt_of_lt_of_le h.1 hn)) hb.size
theorem STab.grow {O : Nat → Prop} {w w' : World} (h : STab w) (hg : Grow O w w') (hO : ¬ O 0) : STab w' := h.keep (hg.block _ h.1 hO) hg.size
theorem sg_eq {k : Nat} (h3 : 3 ≤ k) (h15 : k < 15) : sgT k = sgW k := by
  unfold sgT
  rw [if_neg]
  omega
theorem name_ne {n : ByteArray} (h : n.size ≠ 0) : n.data.toList.isEmpty = false := by
  cases e : n.data.toList with
  | nil => exact absurd (show n.size = 0 by show n.data.size = 0; rw [← Array.length_toList, e]; rfl) h
  | cons => rfl
theorem name_nl {n : ByteArray} (h : n.size ≠ 0) : ¬ n.toList = [] := fun e => by
  have h2 := name_ne h
  rw [← ByteArray.toList_eq, e] at h2
  cases h2
/-- The words of a node, as strings. -/
theorem words_list (f : Fo) (k : Nat) (hk : f.op = (k : Int)) (hs : f.sub ≠ []) : (pwB f).map bs = sgW k :: ((if f.n.size = 0 then [] else [f.n]) ++ f.sub.flatMap fun g => (pwB g).map bs) := by
  rw [pwB_node hs, hk]
  simp only [List.map_cons, List.map_append, List.map_flatMap]
  congr 1
  congr 1
  by_cases h : f.n.size = 0
  · rw [if_pos h, if_pos h]; rfl
  · rw [if_neg h, if_neg h]; rfl
/-- What a node's region reads. -/
structure NdS (B Y k : Nat) (x0 x1 x2 x3 : Value) (l : Nat) (w' : World) : Prop where
  c0 : w'.cell? ⟨B, 0, none⟩ = some x0
  c1 : w'.cell? ⟨B, 1, none⟩ = some x1
  c2 : w'.cell? ⟨B, 2, none⟩ = some x2
  c3 : w'.cell? ⟨B, 3, none⟩ = some x3
  y : w'.cell? ⟨Y, 0, none⟩ = some (.func (.yield l) #[] #[])
  s : w'.cell? ⟨0, k * 4, none⟩ = some (.string (sgT k))
theorem NdS.grow {B Y k : Nat} {x0 x1 x2 x3 : Value} {l : Nat} {O : Nat → Prop} {W W' : World} (h : NdS B Y k x0 x1 x2 x3 l W) (hg : Grow O W W') (h1 : B < W.heap.size) (h2 : Y < W.heap.size) (h3 : 0 < W.heap.size) (n1 : ¬ O B) (n2 : ¬ O Y) (n3 : ¬ O 0) : NdS B Y k x0 x1 x2 x3 l W' :=
  ⟨(hg.cell (p := ⟨B, 0, none⟩) h1 n1).trans h.c0, (hg.cell (p := ⟨B, 1, none⟩) h1 n1).trans h.c1, (hg.cell (p := ⟨B, 2, none⟩) h1 n1).trans h.c2, (hg.cell (p := ⟨B, 3, none⟩) h1 n1).trans h.c3, (hg.cell (p := ⟨Y, 0, none⟩) h2 n2).trans h.y, (hg.cell (p := ⟨0, _, none⟩) h3 n3).trans h.s⟩
/-- The node's state between two yields. -/
structure NdR (f : Fo) (dn B Y l : Nat) (W : World) (O : Nat → Prop) : Prop where
  b : BoxF dn B f W
  st : STab W
  y : W.cell? ⟨Y, 0, none⟩ = some (.func (.yield l) #[] #[])
  yl : Y < W.heap.size
  nb : ¬ O B
  nt : ¬ O 0
  ny : ¬ O Y
  od : ∀ q, O q → dn ≤ q
  bY : B < Y
theorem NdR.bl {f : Fo} {dn B Y l : Nat} {W : World} {O : Nat → Prop} (h : NdR f dn B Y l W O) : B < W.heap.size := h.b.lt
theorem NdR.yield {f : Fo} {dn B Y l : Nat} {W W' : World} {O O' : Nat → Prop} (h : NdR f dn B Y l W O) (hs : Fm.Sub O W.heap.size O') (hg : Grow O W W') : NdR f dn B Y l W' O' := by
  have hyl := h.yl
  have hbl := h.b.lt
  have hdl := h.b.dn
  have hsl := h.st.1
  exact ⟨h.b.grow hg h.nb h.od, h.st.grow hg h.nt, (hg.cell (p := ⟨Y, 0, none⟩) h.yl h.ny).trans h.y, Nat.lt_of_lt_of_le hyl hg.size, fun k => (hs _ k).elim h.nb fun k => by omega, fun k => (hs _ k).elim h.nt fun k => by omega,
    fun k => (hs _ k).elim h.ny fun k => by omega, fun q hq => (hs q hq).elim (h.od q) fun k => by omega, h.bY⟩
theorem NdR.below {f : Fo} {dn B Y l n : Nat} {W W' : World} {O : Nat → Prop} (h : NdR f dn B Y l W O) (hb : Below n W W') (h1 : Y < n) (h2 : dn ≤ n) (h3 : 0 < n) : NdR f dn B Y l W' O := by
  have hyl := h.yl
  have hbl := h.bY
  exact ⟨h.b.below hb (by omega) (by omega), h.st.keep (hb.block _ h3) hb.size, (hb.cell (p := ⟨Y, 0, none⟩) (by show Y < _; omega)).trans h.y, Nat.lt_of_lt_of_le hyl hb.size, h.nb, h.nt, h.ny, h.od, h.bY⟩
/-- The state of the range over a part's words. -/
structure NJ (f : Fo) (dn B Y l m : Nat) (J : Nat → (Nat → Prop) → World → Prop) (k : Nat) (O : Nat → Prop) (W : World) : Prop where
  j : J (m + k) O W
  r : NdR f dn B Y l W O
theorem NJ.fr {f : Fo} {dn B Y l m n N : Nat} {J : Nat → (Nat → Prop) → World → Prop} (hJ : Fr n J) (hn : n ≤ N) (h1 : Y < N) (h2 : dn ≤ N) (h3 : 0 < N) : Fr N (NJ f dn B Y l m J) where
  lt h b hb := hJ.lt h.j b hb
  keep h hb ho := ⟨hJ.keep h.j (hb.mono hn) ho, h.r.below hb h1 h2 h3⟩
/-- How many words stand ahead of part j's. -/
def mAt (f : Fo) (nm : ByteArray) (j : Nat) : Nat := 1 + (if nm.size = 0 then 0 else 1) + ((f.sub.take j).flatMap fun g => (pwB g).map bs).length
theorem take_flat {F : Fo → List ByteArray} : ∀ (s : List Fo) (j : Nat) (g : Fo), s[j]? = some g → s.flatMap F = (s.take j).flatMap F ++ (F g ++ (s.drop (j + 1)).flatMap F)
  | [], j, g, h => by simp at h
  | a :: s, 0, g, h => by
    obtain rfl : a = g := by simpa using h
    simp
  | a :: s, j + 1, g, h => by
    have := take_flat (F := F) s j g (by simpa using h)
    simp only [List.flatMap_cons, List.take_succ_cons, List.drop_succ_cons]
    rw [this]
    simp only [List.append_assoc]
theorem mAt_get {f : Fo} {nm : ByteArray} {a : ByteArray} {L : List ByteArray} (hL : a :: ((if nm.size = 0 then [] else [nm]) ++ f.sub.flatMap fun g => (pwB g).map bs) = L) {j : Nat} {g : Fo} (hj : f.sub[j]? = some g) (i : Nat) (x : ByteArray) (hx : ((pwB g).map bs)[i]? = some x) : L[mAt f nm j + i]? = some x := by
  subst hL
  have e : (if nm.size = 0 then ([] : List ByteArray) else [nm]).length = if nm.size = 0 then 0 else 1 := by by_cases h : nm.size = 0 <;> simp [h]
  rw [take_flat f.sub j g hj, ← List.append_assoc, show mAt f nm j + i = ((if nm.size = 0 then ([] : List ByteArray) else [nm]) ++ (f.sub.take j).flatMap fun g => (pwB g).map bs).length + i + 1 by rw [List.length_append, e]; unfold mAt; omega, List.getElem?_cons_succ, List.getElem?_append_right (by omega), Nat.add_sub_cancel_left, List.getElem?_append_left (List.getElem?_eq_some_iff.1 hx).1, hx]
theorem mAt_succ {f : Fo} {nm : ByteArray} {j : Nat} {g : Fo} (hj : f.sub[j]? = some g) : mAt f nm j + ((pwB g).map bs).length = mAt f nm (j + 1) := by
  unfold mAt
  rw [List.take_add_one, hj, List.flatMap_append, List.length_append]
  simp only [Option.toList_some, List.flatMap_cons, List.flatMap_nil, List.append_nil]
  omega
theorem mAt_end {f : Fo} {nm : ByteArray} {a : ByteArray} {L : List ByteArray} (hL : a :: ((if nm.size = 0 then [] else [nm]) ++ f.sub.flatMap fun g => (pwB g).map bs) = L) {j : Nat} (hj : f.sub.length = j) : mAt f nm j = L.length := by
  subst hL
  unfold mAt
  rw [← hj, List.take_length, List.length_cons, List.length_append]
  by_cases h : nm.size = 0 <;> simp [h] <;> omega
theorem mAt_zero (f : Fo) (nm : ByteArray) : mAt f nm 0 = 1 + if nm.size = 0 then 0 else 1 := by simp [mAt]
end Go.Proofs.YtdapnjnmhkdnpaaDoor.Fb

/-
  The iterator of words at a node: 1 part, no name.
-/
namespace Go.Proofs.YtdapnjnmhkdnpaaDoor.Fb
open Go Go.RowKit Go.Shelf Go.Proofs.YtdapnjnmhkdnpaaDoor.Fm Go.Proofs.YtdapnjnmhkdnpaaDoor.Lx Go.Proofs.YtdapnjnmhkdnpaaDoor.Ps Go.Proofs.YtdapnjnmhkdnpaaDoor.Ft
set_option linter.unusedVariables false
set_option linter.unusedSimpArgs false
attribute [local go_sem] Oper.semAt_some
set_option maxRecDepth 20000 in
set_option maxHeartbeats 8000000 in
theorem wo_U (f : Fo) (k : Nat) (hk : f.op = (k : Int)) (hk3 : 3 ≤ k) (hk15 : k < 15) (hsl : f.sub.length = 1) (hn : f.n = ⟨#[]⟩) (hIH : ∀ i (h : i < f.sub.length), WoAt f.sub[i]) : WoAt f := by
  intro B dn l n J Jx O W hJ hJx hnW hR h0 ⟨hB, hT, nB, nT, hO⟩
  have hsub : f.sub ≠ [] := fun h => by rw [h] at hsl; simp at hsl
  have hpw := words_list f k hk hsub
  rw [hpw] at hR ⊢
  clear hpw
  have hOW := hJ.lt h0
  have nY : ¬ O W.heap.size := fun h => by have := hOW _ h; omega
  have hb0 : Below W.heap.size W (W.alloc (.cells #[.func (.yield l) #[] #[]] 91)) := (Below.refl _ _).alloc (Nat.le_refl _) _
  have HBX := Lib.hid (hB.below hb0 hB.lt hB.dn)
  have HB0 := Lib.hid hb0
  have hcy : (W.alloc (.cells #[.func (.yield l) #[] #[]] 91)).cell? ⟨W.heap.size, 0, none⟩ = some (.func (.yield l) #[] #[]) := World.cell?_alloc_at _ _ _ _ rfl
  have hsg := (hT.2 k (by omega) (by omega)).1
  have hsz0 := hT.1
  obtain ⟨⟨v0, v1, v2, v3, c0, c1, c2, c3, hv⟩, hbl, hd⟩ := hB
  obtain ⟨rfl, _, rfl, _, hA, hS⟩ := hv
  obtain ⟨⟨a1, k1, rfl⟩, _⟩ := hA.form
  obtain ⟨⟨a2, k2, rfl⟩, _⟩ := hS.form
  rw [hsl] at c3
  rw [hk] at c0
  have hHeld : NdS B W.heap.size k (.int .u8 (k : Int)) (.string f.n) (.slice a1 f.args.length k1) (.slice a2 1 k2) l (W.alloc (.cells #[.func (.yield l) #[] #[]] 91)) :=
    ⟨(hb0.cell (p := ⟨B, 0, none⟩) hbl).trans c0, (hb0.cell (p := ⟨B, 1, none⟩) hbl).trans c1, (hb0.cell (p := ⟨B, 2, none⟩) hbl).trans c2, (hb0.cell (p := ⟨B, 3, none⟩) hbl).trans c3, hcy, (hb0.cell (p := ⟨0, _, none⟩) hsz0).trans hsg⟩
  have HL := Lib.hid hHeld
  have HT := Lib.hid hT
  have HSUB := Lib.hid hsl
  have HIH := Lib.hid hIH
  have HB := Lib.hid (show B < W.heap.size ∧ dn ≤ W.heap.size ∧ 0 < W.heap.size from ⟨hbl, hd, hsz0⟩)
  obtain ⟨nm, hnm⟩ : ∃ nm, f.n = nm := ⟨_, rfl⟩
  obtain ⟨al, hal⟩ : ∃ al, f.args.length = al := ⟨_, rfl⟩
  rw [hnm] at HL c1 hn hR ⊢
  obtain ⟨LL, hLL⟩ : ∃ LL, sgW k :: ((if nm.size = 0 then [] else [nm]) ++ f.sub.flatMap fun g => (pwB g).map bs) = LL := ⟨_, rfl⟩
  rw [hLL] at hR ⊢
  have HLL := Lib.hid hLL
  clear hLL
  rw [hal] at HL c2
  clear hA hS hsub hcy hb0 hHeld hT hIH hsl hsg
  refine callsIn_of_wp_marks Tryd.func52 rfl trivial ?_ rfl
  simp only [Tryd.ntmps52, List.size_toArray, List.length_cons, List.length_nil, Nat.reduceAdd, Nat.reduceSub, Array.replicate_succ, Array.replicate_zero, List.push_toArray, List.append_toArray, List.nil_append, List.cons_append]
  gi_wp2_with fail
  have hHeld := HL.out
  refine region_inS (NdS B W.heap.size k (.int .u8 (k : Int)) (.string nm) (.slice a1 al k1) (.slice a2 1 k2) l) 20 #[false, false, false, false, false, false, false, false, false, false, false, false, false, false, false, false, false, false, false, false] (by kernel_rfl) (by kernel_rfl) (by kernel_rfl) ⟨hHeld.c0, hHeld.c1, hHeld.c2, hHeld.c3, hHeld.y, hHeld.s⟩ (fun hHeld => ?_)
  refine anyInS_take (i := 0) (oi := ⟨some 14, _, _, _, _, _⟩) (v := .func (.yield l) #[] #[]) rfl rfl (by kernel_rfl) (by kernel_rfl) (by kernel_rfl) (fun _ _ _ h => Norm.panic h) (Or.inl ⟨by rfl, ?_⟩) (fun _ => rfl) (by assumption) ?_
  · intro w' hSw
    obtain ⟨t0, t1, t2, t3, t4, t5⟩ := hSw
    go_simp
  simp only [Act.put, List.setIfInBounds_toArray, List.set_cons_zero, List.set_cons_succ]
  refine anyInS_take (i := 1) (oi := ⟨some 15, _, _, _, _, _⟩) (v := .pointer (some ⟨B, 0, none⟩)) rfl rfl (by kernel_rfl) (by kernel_rfl) (by kernel_rfl) (fun _ _ _ h => Norm.panic h) (Or.inl ⟨by rfl, ?_⟩) (fun _ => rfl) (by assumption) ?_
  · intro w' hSw
    obtain ⟨t0, t1, t2, t3, t4, t5⟩ := hSw
    go_simp
  simp only [Act.put, List.setIfInBounds_toArray, List.set_cons_zero, List.set_cons_succ]
  refine anyInS_take (i := 2) (oi := ⟨some 16, _, _, _, _, _⟩) (v := .int .u8 (k : Int)) rfl rfl (by kernel_rfl) (by kernel_rfl) (by kernel_rfl) (fun _ _ _ h => Norm.panic h) (Or.inl ⟨by rfl, ?_⟩) (fun _ => rfl) (by assumption) ?_
  · intro w' hSw
    obtain ⟨t0, t1, t2, t3, t4, t5⟩ := hSw
    go_simp
  simp only [Act.put, List.setIfInBounds_toArray, List.set_cons_zero, List.set_cons_succ]
  refine anyInS_take (i := 3) (oi := ⟨some 17, _, _, _, _, _⟩) (v := .pointer (some ⟨0, k * 4, none⟩)) rfl rfl (by kernel_rfl) (by kernel_rfl) (by kernel_rfl) (fun _ _ _ h => Norm.panic h) (Or.inl ⟨by rfl, ?_⟩) (fun _ => rfl) (by assumption) ?_
  · intro w' hSw
    obtain ⟨t0, t1, t2, t3, t4, t5⟩ := hSw
    go_simp
    exact fun h => absurd h (by omega)
  simp only [Act.put, List.setIfInBounds_toArray, List.set_cons_zero, List.set_cons_succ]
  refine anyInS_take (i := 4) (oi := ⟨some 18, _, _, _, _, _⟩) (v := .pointer (some ⟨0, k * 4, none⟩)) rfl rfl (by kernel_rfl) (by kernel_rfl) (by kernel_rfl) (fun _ _ _ h => Norm.panic h) (Or.inl ⟨by rfl, ?_⟩) (fun _ => rfl) (by assumption) ?_
  · intro w' hSw
    obtain ⟨t0, t1, t2, t3, t4, t5⟩ := hSw
    go_simp
  simp only [Act.put, List.setIfInBounds_toArray, List.set_cons_zero, List.set_cons_succ]
  refine anyInS_take (i := 5) (oi := ⟨some 19, _, _, _, _, _⟩) (v := .string (sgT k)) rfl rfl (by kernel_rfl) (by kernel_rfl) (by kernel_rfl) (fun _ _ _ h => Norm.panic h) (Or.inl ⟨by rfl, ?_⟩) (fun _ => rfl) (by assumption) ?_
  · intro w' hSw
    obtain ⟨t0, t1, t2, t3, t4, t5⟩ := hSw
    go_simp
  simp only [Act.put, List.setIfInBounds_toArray, List.set_cons_zero, List.set_cons_succ]
  have hX : Below W.heap.size W (W.alloc (.cells #[.func (.yield l) #[] #[]] 91)).drew := HB0.out.drew
  have hBX2 := HBX.out.below (m := (W.alloc (.cells #[.func (.yield l) #[] #[]] 91)).heap.size) (Below.refl _ _).drew (by rw [World.size_alloc]; omega) (by rw [World.size_alloc]; omega)
  have hzX1 : W.heap.size + 1 = (W.alloc (.cells #[.func (.yield l) #[] #[]] 91)).drew.heap.size := by simp
  clear HL
  generalize hXX : (W.alloc (.cells #[.func (.yield l) #[] #[]] 91)).drew = X at *
  clear hXX HBX HB0
  have h0X : J 0 O X := hJ.keep h0 (hX.mono hnW) (fun b hb => hX.block b (hOW b hb))
  have hst : NdR f dn B W.heap.size l X O := ⟨hBX2, HT.out.below hX, hHeld.y, by omega, nB, nT, nY, hO, HB.out.1⟩
  have hgX : Grow O W X := Grow.of_below hX
  obtain ⟨fn, tmps, assign, body, hy, hRd⟩ := hR 0 _ O X #[.string (sgT k)] h0X (by rw [← HLL.out, sg_eq hk3 hk15]; rfl) rfl
  have HST := Lib.hid hst
  have HGX := Lib.hid hgX
  clear hst hgX hBX2
  refine anyInS_one (i := 6) (oi := ⟨some 20, _, _, _, _, _⟩) rfl (by kernel_rfl) (by rfl) (fun _ _ => trivial) (fun K hK => ?_)
  unfold Oper.wpIn
  refine ⟨fun _ _ => trivial, ?_⟩
  go_simp
  refine ⟨rfl, RoundIn.mono hRd ?_⟩
  clear hRd hy
  rintro e U ⟨O4, hs4, hg4, (⟨rfl, h4⟩ | ⟨rfl, h4⟩)⟩
  · have hHU := hHeld.grow hg4 HST.out.bl HST.out.yl HST.out.st.1 HST.out.nb HST.out.ny HST.out.nt
    have HST2 := Lib.hid (HST.out.yield hs4 hg4)
    have HG2 := Lib.hid (HGX.out.trans hg4 (Sub.refl _ _))
    have HS2 := Lib.hid (show Fm.Sub O W.heap.size O4 from (Sub.refl _ _).trans hs4 (by omega))
    have HJ4 := Lib.hid h4
    clear hs4 hg4 h4
    refine hK _ _ hHU ?_
    clear hK K hHeld
    simp only [Act.put, List.setIfInBounds_toArray, List.set_cons_zero, List.set_cons_succ]
    refine anyInS_take (i := 7) (oi := ⟨some 21, _, _, _, _, _⟩) (v := .bool false) rfl rfl (by kernel_rfl) (by kernel_rfl) (by kernel_rfl) (fun _ _ _ h => Norm.panic h) (Or.inl ⟨by rfl, ?_⟩) (fun _ => rfl) (by assumption) ?_
    · intro w' hSw
      obtain ⟨t0, t1, t2, t3, t4, t5⟩ := hSw
      go_simp
    simp only [Act.put, List.setIfInBounds_toArray, List.set_cons_zero, List.set_cons_succ]
    refine anyInS_take (i := 8) (oi := ⟨some 22, _, _, _, _, _⟩) (v := .bool false) rfl rfl (by kernel_rfl) (by kernel_rfl) (by kernel_rfl) (fun _ _ _ h => Norm.panic h) (Or.inl ⟨by rfl, ?_⟩) (fun _ => rfl) (by assumption) ?_
    · intro w' hSw
      obtain ⟨t0, t1, t2, t3, t4, t5⟩ := hSw
      go_simp
    simp only [Act.put, List.setIfInBounds_toArray, List.set_cons_zero, List.set_cons_succ]
    refine anyInS_take (i := 9) (oi := ⟨some 23, _, _, _, _, _⟩) (v := .pointer (some ⟨B, 1, none⟩)) rfl rfl (by kernel_rfl) (by kernel_rfl) (by kernel_rfl) (fun _ _ _ h => Norm.panic h) (Or.inl ⟨by rfl, ?_⟩) (fun _ => rfl) (by assumption) ?_
    · intro w' hSw
      obtain ⟨t0, t1, t2, t3, t4, t5⟩ := hSw
      go_simp
    simp only [Act.put, List.setIfInBounds_toArray, List.set_cons_zero, List.set_cons_succ]
    refine anyInS_take (i := 10) (oi := ⟨some 24, _, _, _, _, _⟩) (v := .string nm) rfl rfl (by kernel_rfl) (by kernel_rfl) (by kernel_rfl) (fun _ _ _ h => Norm.panic h) (Or.inl ⟨by rfl, ?_⟩) (fun _ => rfl) (by assumption) ?_
    · intro w' hSw
      obtain ⟨t0, t1, t2, t3, t4, t5⟩ := hSw
      go_simp
    simp only [Act.put, List.setIfInBounds_toArray, List.set_cons_zero, List.set_cons_succ]
    refine anyInS_take (i := 11) (oi := ⟨some 25, _, _, _, _, _⟩) (v := .bool false) rfl rfl (by kernel_rfl) (by kernel_rfl) (by kernel_rfl) (fun _ _ _ h => Norm.panic h) (Or.inl ⟨by rfl, ?_⟩) (fun _ => rfl) (by assumption) ?_
    · intro w' hSw
      obtain ⟨t0, t1, t2, t3, t4, t5⟩ := hSw
      go_simp
      first | done | (rw [hn]; rfl) | simp [hn]
    simp only [Act.put, List.setIfInBounds_toArray, List.set_cons_zero, List.set_cons_succ]
    refine anyInS_take (i := 12) (oi := ⟨some 26, _, _, _, _, _⟩) (v := .bool false) rfl rfl (by kernel_rfl) (by kernel_rfl) (by kernel_rfl) (fun _ _ _ h => Norm.panic h) (Or.inl ⟨by rfl, ?_⟩) (fun _ => rfl) (by assumption) ?_
    · intro w' hSw
      obtain ⟨t0, t1, t2, t3, t4, t5⟩ := hSw
      go_simp
    simp only [Act.put, List.setIfInBounds_toArray, List.set_cons_zero, List.set_cons_succ]
    refine anyInS_take (i := 13) (oi := ⟨some 27, _, _, _, _, _⟩) (v := undef) rfl rfl (by kernel_rfl) (by kernel_rfl) (by kernel_rfl) (fun _ _ _ h => Norm.panic h) (Or.inr ⟨by rfl, rfl⟩) (fun _ => rfl) (by assumption) ?_
    simp only [Act.put, List.setIfInBounds_toArray, List.set_cons_zero, List.set_cons_succ]
    refine anyInS_take (i := 14) (oi := ⟨some 28, _, _, _, _, _⟩) (v := undef) rfl rfl (by kernel_rfl) (by kernel_rfl) (by kernel_rfl) (fun _ _ _ h => Norm.panic h) (Or.inr ⟨by rfl, rfl⟩) (fun _ => rfl) (by assumption) ?_
    simp only [Act.put, List.setIfInBounds_toArray, List.set_cons_zero, List.set_cons_succ]
    refine anyInS_take (i := 15) (oi := ⟨some 29, _, _, _, _, _⟩) (v := undef) rfl rfl (by kernel_rfl) (by kernel_rfl) (by kernel_rfl) (fun _ _ _ h => Norm.panic h) (Or.inr ⟨by rfl, rfl⟩) (fun _ => rfl) (by assumption) ?_
    simp only [Act.put, List.setIfInBounds_toArray, List.set_cons_zero, List.set_cons_succ]
    refine anyInS_take (i := 16) (oi := ⟨some 30, _, _, _, _, _⟩) (v := undef) rfl rfl (by kernel_rfl) (by kernel_rfl) (by kernel_rfl) (fun _ _ _ h => Norm.panic h) (Or.inr ⟨by rfl, rfl⟩) (fun _ => rfl) (by assumption) ?_
    simp only [Act.put, List.setIfInBounds_toArray, List.set_cons_zero, List.set_cons_succ]
    refine anyInS_take (i := 17) (oi := ⟨some 31, _, _, _, _, _⟩) (v := undef) rfl rfl (by kernel_rfl) (by kernel_rfl) (by kernel_rfl) (fun _ _ _ h => Norm.panic h) (Or.inr ⟨by rfl, rfl⟩) (fun _ => rfl) (by assumption) ?_
    simp only [Act.put, List.setIfInBounds_toArray, List.set_cons_zero, List.set_cons_succ]
    refine anyInS_take (i := 18) (oi := ⟨some 32, _, _, _, _, _⟩) (v := .bool false) rfl rfl (by kernel_rfl) (by kernel_rfl) (by kernel_rfl) (fun _ _ _ h => Norm.panic h) (Or.inl ⟨by rfl, ?_⟩) (fun _ => rfl) (by assumption) ?_
    · intro w' hSw
      obtain ⟨t0, t1, t2, t3, t4, t5⟩ := hSw
      go_simp
    simp only [Act.put, List.setIfInBounds_toArray, List.set_cons_zero, List.set_cons_succ]
    refine anyInS_take (i := 19) (oi := ⟨some 33, _, _, _, _, _⟩) (v := .bool false) rfl rfl (by kernel_rfl) (by kernel_rfl) (by kernel_rfl) (fun _ _ _ h => Norm.panic h) (Or.inl ⟨by rfl, ?_⟩) (fun _ => rfl) (by assumption) ?_
    · intro w' hSw
      obtain ⟨t0, t1, t2, t3, t4, t5⟩ := hSw
      go_simp
    simp only [Act.put, List.setIfInBounds_toArray, List.set_cons_zero, List.set_cons_succ]
    refine anyInS_done (by kernel_rfl) ?_
    refine Norm.normal ?_
    have c3 := hHU.c3
    obtain ⟨M0, hM0⟩ : ∃ m, mAt f nm 0 = m := ⟨_, rfl⟩
    obtain ⟨M1, hM1⟩ : ∃ m, mAt f nm 1 = m := ⟨_, rfl⟩
    have HM0 := Lib.hid (show M0 = 1 by rw [← hM0, mAt_zero]; rw [hn]; rfl)
    have HME := Lib.hid ((mAt_end HLL.out HSUB.out).symm.trans hM1)
    have hsi : 0 < f.sub.length := by rw [HSUB.out]; omega
    have hwo := HIH.out 0 hsi
    obtain ⟨⟨v0, v1, v2, v3, d0, d1, d2, d3, hv⟩, _, hd'⟩ := HST2.out.b
    obtain rfl : v3 = .slice a2 1 k2 := Option.some.inj (d3.symm.trans c3)
    obtain ⟨-, b0, o0, he2, hbn, x00, x01, x02, x03, e0, e1, e2, e3, hu⟩ := hv.sub.get hsi
    obtain rfl := he2
    obtain ⟨g0, hg0⟩ : ∃ g, f.sub[0] = g := ⟨_, rfl⟩
    rw [hg0] at hu hwo
    have HG0 := Lib.hid (show f.sub[0]? = some g0 from by rw [List.getElem?_eq_getElem hsi, hg0])
    obtain ⟨⟨a05, k05, rfl⟩, _⟩ := hu.args.form
    obtain ⟨⟨a06, k06, rfl⟩, _⟩ := hu.sub.form
    obtain rfl := hu.op
    obtain rfl := hu.nm
    simp only [Nat.zero_mul, Nat.one_mul, Nat.add_zero] at e0 e1 e2 e3
    have HU0 := Lib.hid (⟨hu, hwo, hbn, hd'⟩ : _ ∧ _ ∧ _ ∧ _)
    clear d0 d1 d2 d3 hv hd' hu hwo hg0 hsi hbn
    clear hHU c0 c1 c2 hHeld hX hzX1 h0X hn
    gi_wp2_with fail
    refine wpIn_loop_rounds 2 ?_
    rw [roundsIn_succ]
    gi_wp2_with fail
    have hbA0 : Below U.heap.size U (U.alloc (.cells #[.int .u8 g0.op, .string g0.n, .slice a05 g0.args.length k05, .slice a06 g0.sub.length k06] 25)) := (Below.refl _ _).alloc (Nat.le_refl _) _
    refine ⟨trivial, rfl, (words_in _ _ _ _ g0 dn _ (HU0.out.1.below hbA0 HU0.out.2.2.2) (by rw [World.size_alloc]; have := HU0.out.2.2.2; omega)).mono ?_⟩
    rintro e V0 ⟨rfl, hb1, hbox, hz1⟩
    rw [World.size_alloc] at hb1 hbox hz1
    rw [World.size_alloc]
    have hz0 : V0.heap.size ≤ U.heap.size + 2 ∧ U.heap.size + 2 ≤ V0.heap.size := by omega
    have hbw : Below U.heap.size U V0 := hbA0.trans (hb1.mono (by omega))
    have hdU := HU0.out.2.2.2
    have hyU := HST2.out.yl
    have hsU := HST2.out.st.1
    have hltU := hJ.lt HJ4.out
    have hstV := HST2.out.below hbw hyU hdU hsU
    have HSTV0 := Lib.hid hstV
    have hjV := hJ.below HJ4.out hbw (by have := HB.out; omega)
    have HGV0 := Lib.hid (HG2.out.trans (Grow.of_below (O := O4) hbw) HS2.out)
    have HBV0 := Lib.hid (⟨hbox, hstV.st⟩ : _ ∧ _)
    have hmg := mAt_get HLL.out HG0.out
    have hms := mAt_succ (nm := nm) HG0.out
    rw [hM0] at hmg hms
    rw [hM1] at hms
    have HMG0 := Lib.hid hmg
    have HMS0 := Lib.hid hms
    have HC0 := Lib.hid ((hbw.cell (p := ⟨B, 3, none⟩) (by show B < _; omega)).trans c3)
    skip
    clear e0 e1 e2 e3 c3 hb1 hz1 hbA0 hbw hmg hms
    gi_wp2_with fail
    refine range_law (gf := 52) (lb := #[.pointer (some ⟨U.heap.size + 1, 0, none⟩)]) rfl (enters_of Tryd.func52 (by kernel_rfl) rfl) (HU0.out.2.1 (U.heap.size + 1) dn)
      (by rintro W x args rfl; rfl) (NJ f dn B W.heap.size l M0 J) (TJx Jx) O4 (NJ.fr hJ (by omega) (by omega) (by omega) (by omega)) (fun c => TJx.fr hJx (by omega) c)
      ⟨by rw [Nat.add_zero, HM0.out]; exact hjV, HSTV0.out⟩
      (fun O' W' hb' hs' => ⟨HBV0.out.1.below hb' (by omega) (by omega), HBV0.out.2.below hb' (Nat.le_refl _), fun h => (hs' _ h).elim (fun h => by have := hltU _ h; omega) fun h => by omega, fun h => (hs' _ h).elim HSTV0.out.nt fun h => by omega, fun b hb => (hs' b hb).elim (HSTV0.out.od b) fun h => by omega⟩)
      (fun i x args W2 a1 W3 => W3 = W2 ∧ ∃ u3 u4 u6 u8 u9 u10 u11 u12 u13 u14 u15 u16 u17 u18 u19 u20 u21 u22 u23 u24 u25 u26 u27 u28 u29 u30 u31 u32 u33 u34 u38 u39 u40 u41 u42 u44 u45 u46 u47 u48, a1 = { tmps := #[.func (.yield l) #[] #[], .pointer (some ⟨B, 0, none⟩), .pointer (some ⟨W.heap.size, 0, none⟩), u3, u4, .string x, u6, .slice (some ⟨b0, o0, none⟩) 1 k2, u8, u9, u10, u11, u12, u13, u14, u15, u16, u17, u18, u19, u20, u21, u22, u23, u24, u25, u26, u27, u28, u29, u30, u31, u32, u33, u34, .slice (some ⟨b0, o0, none⟩) 1 k2, .int .i64 1, .int .i64 0, u38, u39, u40, u41, u42, .string x, u44, u45, u46, u47, u48], defers := [] }) ?assign0 ?body0 ?done0 ?stop0
    case assign0 =>
      rintro l2 i x O2 W2 args hj hx rfl
      clear hj hjV hstV hbox
      gi_wp2
      exact ⟨Below.refl _ _, trivial, _, _, _, _, _, _, _, _, _, _, _, _, _, _, _, _, _, _, _, _, _, _, _, _, _, _, _, _, _, _, _, _, _, _, _, _, _, _, _, _, rfl⟩
    case body0 =>
      rintro l2 i x O2 W2 args _ _ W3 ⟨rfl, u3, u4, u6, u8, u9, u10, u11, u12, u13, u14, u15, u16, u17, u18, u19, u20, u21, u22, u23, u24, u25, u26, u27, u28, u29, u30, u31, u32, u33, u34, u38, u39, u40, u41, u42, u44, u45, u46, u47, u48, rfl⟩ hj hx hrep hbb hbl hz3 hne hl2 hl3 hol
      have hxl := HMG0.out i x hx
      obtain ⟨fn, tmps, assign, body, hy, hRd⟩ := hR (M0 + i) x O2 W3 #[.string x] hj.j hxl rfl
      have hj1 := hj.r.y
      have HJ := Lib.hid hj
      clear hj hx hxl hrep hbb hbl hne hjV hstV hbox
      gi_wp2_with fail
      refine ⟨rfl, RoundIn.mono hRd ?_⟩
      clear hRd hy
      rintro e W4 ⟨O5, hs4, hg4, (⟨rfl, h4⟩ | ⟨rfl, h4⟩)⟩
      · have HJ5 := Lib.hid (⟨h4, HJ.out.r.yield hs4 hg4⟩ : NJ f dn B W.heap.size l M0 J (i + 1) O5 W4)
        clear h4 hj1
        gi_wp2
        exact ⟨O5, hs4, hg4, HJ5.out⟩
      · clear hj1
        gi_wp2
        exact ⟨O5, hs4, hg4, rfl, h4⟩
    case stop0 =>
      rintro c O5 W5 ⟨rfl, hx⟩ hs5 nD5 hg5 hK5
      have hF := hJx.taken (k := 0) hx (D := V0.heap.size) (by omega) nD5 (.deferred none)
      have hG := (HGV0.out.trans hg5 HS2.out).taken (D := V0.heap.size) (by omega) (.deferred none)
      have hS : Fm.Sub O W.heap.size O5 := HS2.out.trans hs5 (by omega)
      clear hjV hstV hbox
      gi_wp2
      refine ⟨by simp, .inl ⟨_, _, rfl, run_takeDeferred hK5, ?_⟩⟩
      exact ⟨_, results_none rfl _ _ _, ⟨_, rfl⟩, O5, hS, hG, .inr hF⟩
    case done0 =>
      rintro O5 W5 hj hs5 nD5 hg5 hK5
      have hx := hj.j
      rw [HMS0.out] at hx
      rw [HME.out.symm] at hx
      have hF := hJ.taken hx (D := V0.heap.size) (by omega) nD5 (.deferred none)
      have hG := (HGV0.out.trans hg5 HS2.out).taken (D := V0.heap.size) (by omega) (.deferred none)
      have hS : Fm.Sub O W.heap.size O5 := HS2.out.trans hs5 (by omega)
      clear hjV hstV hbox hj hx
      gi_wp2_with fail
      rw [roundsIn_succ]
      gi_wp2
      refine ⟨by simp, .inl ⟨_, _, rfl, run_takeDeferred hK5, ?_⟩⟩
      exact ⟨_, results_none rfl _ _ _, ⟨_, rfl⟩, O5, hS, hG, .inl hF⟩
  · have hHU := hHeld.grow hg4 HST.out.bl HST.out.yl HST.out.st.1 HST.out.nb HST.out.ny HST.out.nt
    have HF := Lib.hid (show ∃ O', Fm.Sub O W.heap.size O' ∧ Grow O W U ∧ (J LL.length O' U ∨ Jx O' U) from ⟨O4, (Sub.refl _ _).trans hs4 (by omega), HGX.out.trans hg4 (Sub.refl _ _), .inr h4⟩)
    clear hs4 hg4 h4
    refine hK _ _ hHU ?_
    clear hK K hHeld
    simp only [Act.put, List.setIfInBounds_toArray, List.set_cons_zero, List.set_cons_succ]
    refine anyInS_take (i := 7) (oi := ⟨some 21, _, _, _, _, _⟩) (v := .bool true) rfl rfl (by kernel_rfl) (by kernel_rfl) (by kernel_rfl) (fun _ _ _ h => Norm.panic h) (Or.inl ⟨by rfl, ?_⟩) (fun _ => rfl) (by assumption) ?_
    · intro w' hSw
      obtain ⟨t0, t1, t2, t3, t4, t5⟩ := hSw
      go_simp
    simp only [Act.put, List.setIfInBounds_toArray, List.set_cons_zero, List.set_cons_succ]
    refine anyInS_take (i := 8) (oi := ⟨some 22, _, _, _, _, _⟩) (v := .bool true) rfl rfl (by kernel_rfl) (by kernel_rfl) (by kernel_rfl) (fun _ _ _ h => Norm.panic h) (Or.inl ⟨by rfl, ?_⟩) (fun _ => rfl) (by assumption) ?_
    · intro w' hSw
      obtain ⟨t0, t1, t2, t3, t4, t5⟩ := hSw
      go_simp
    simp only [Act.put, List.setIfInBounds_toArray, List.set_cons_zero, List.set_cons_succ]
    refine anyInS_take (i := 9) (oi := ⟨some 23, _, _, _, _, _⟩) (v := undef) rfl rfl (by kernel_rfl) (by kernel_rfl) (by kernel_rfl) (fun _ _ _ h => Norm.panic h) (Or.inr ⟨by rfl, rfl⟩) (fun _ => rfl) (by assumption) ?_
    simp only [Act.put, List.setIfInBounds_toArray, List.set_cons_zero, List.set_cons_succ]
    refine anyInS_take (i := 10) (oi := ⟨some 24, _, _, _, _, _⟩) (v := undef) rfl rfl (by kernel_rfl) (by kernel_rfl) (by kernel_rfl) (fun _ _ _ h => Norm.panic h) (Or.inr ⟨by rfl, rfl⟩) (fun _ => rfl) (by assumption) ?_
    simp only [Act.put, List.setIfInBounds_toArray, List.set_cons_zero, List.set_cons_succ]
    refine anyInS_take (i := 11) (oi := ⟨some 25, _, _, _, _, _⟩) (v := undef) rfl rfl (by kernel_rfl) (by kernel_rfl) (by kernel_rfl) (fun _ _ _ h => Norm.panic h) (Or.inr ⟨by rfl, rfl⟩) (fun _ => rfl) (by assumption) ?_
    simp only [Act.put, List.setIfInBounds_toArray, List.set_cons_zero, List.set_cons_succ]
    refine anyInS_take (i := 12) (oi := ⟨some 26, _, _, _, _, _⟩) (v := undef) rfl rfl (by kernel_rfl) (by kernel_rfl) (by kernel_rfl) (fun _ _ _ h => Norm.panic h) (Or.inr ⟨by rfl, rfl⟩) (fun _ => rfl) (by assumption) ?_
    simp only [Act.put, List.setIfInBounds_toArray, List.set_cons_zero, List.set_cons_succ]
    refine anyInS_take (i := 13) (oi := ⟨some 27, _, _, _, _, _⟩) (v := undef) rfl rfl (by kernel_rfl) (by kernel_rfl) (by kernel_rfl) (fun _ _ _ h => Norm.panic h) (Or.inr ⟨by rfl, rfl⟩) (fun _ => rfl) (by assumption) ?_
    simp only [Act.put, List.setIfInBounds_toArray, List.set_cons_zero, List.set_cons_succ]
    refine anyInS_take (i := 14) (oi := ⟨some 28, _, _, _, _, _⟩) (v := undef) rfl rfl (by kernel_rfl) (by kernel_rfl) (by kernel_rfl) (fun _ _ _ h => Norm.panic h) (Or.inr ⟨by rfl, rfl⟩) (fun _ => rfl) (by assumption) ?_
    simp only [Act.put, List.setIfInBounds_toArray, List.set_cons_zero, List.set_cons_succ]
    refine anyInS_take (i := 15) (oi := ⟨some 29, _, _, _, _, _⟩) (v := undef) rfl rfl (by kernel_rfl) (by kernel_rfl) (by kernel_rfl) (fun _ _ _ h => Norm.panic h) (Or.inr ⟨by rfl, rfl⟩) (fun _ => rfl) (by assumption) ?_
    simp only [Act.put, List.setIfInBounds_toArray, List.set_cons_zero, List.set_cons_succ]
    refine anyInS_take (i := 16) (oi := ⟨some 30, _, _, _, _, _⟩) (v := undef) rfl rfl (by kernel_rfl) (by kernel_rfl) (by kernel_rfl) (fun _ _ _ h => Norm.panic h) (Or.inr ⟨by rfl, rfl⟩) (fun _ => rfl) (by assumption) ?_
    simp only [Act.put, List.setIfInBounds_toArray, List.set_cons_zero, List.set_cons_succ]
    refine anyInS_take (i := 17) (oi := ⟨some 31, _, _, _, _, _⟩) (v := undef) rfl rfl (by kernel_rfl) (by kernel_rfl) (by kernel_rfl) (fun _ _ _ h => Norm.panic h) (Or.inr ⟨by rfl, rfl⟩) (fun _ => rfl) (by assumption) ?_
    simp only [Act.put, List.setIfInBounds_toArray, List.set_cons_zero, List.set_cons_succ]
    refine anyInS_take (i := 18) (oi := ⟨some 32, _, _, _, _, _⟩) (v := undef) rfl rfl (by kernel_rfl) (by kernel_rfl) (by kernel_rfl) (fun _ _ _ h => Norm.panic h) (Or.inr ⟨by rfl, rfl⟩) (fun _ => rfl) (by assumption) ?_
    simp only [Act.put, List.setIfInBounds_toArray, List.set_cons_zero, List.set_cons_succ]
    refine anyInS_take (i := 19) (oi := ⟨some 33, _, _, _, _, _⟩) (v := .bool true) rfl rfl (by kernel_rfl) (by kernel_rfl) (by kernel_rfl) (fun _ _ _ h => Norm.panic h) (Or.inl ⟨by rfl, ?_⟩) (fun _ => rfl) (by assumption) ?_
    · intro w' hSw
      obtain ⟨t0, t1, t2, t3, t4, t5⟩ := hSw
      go_simp
    simp only [Act.put, List.setIfInBounds_toArray, List.set_cons_zero, List.set_cons_succ]
    refine anyInS_done (by kernel_rfl) ?_
    refine Norm.normal ?_
    clear hHU c0 c1 c2 c3
    gi_wp2
    exact ⟨_, results_none rfl _ _ _, ⟨_, rfl⟩, HF.out⟩
end Go.Proofs.YtdapnjnmhkdnpaaDoor.Fb

/-
  The iterator of words at a node: 2 parts, no name.
-/
namespace Go.Proofs.YtdapnjnmhkdnpaaDoor.Fb
open Go Go.RowKit Go.Shelf Go.Proofs.YtdapnjnmhkdnpaaDoor.Fm Go.Proofs.YtdapnjnmhkdnpaaDoor.Lx Go.Proofs.YtdapnjnmhkdnpaaDoor.Ps Go.Proofs.YtdapnjnmhkdnpaaDoor.Ft
set_option linter.unusedVariables false
set_option linter.unusedSimpArgs false
attribute [local go_sem] Oper.semAt_some
set_option maxRecDepth 20000 in
set_option maxHeartbeats 8000000 in
theorem wo_B (f : Fo) (k : Nat) (hk : f.op = (k : Int)) (hk3 : 3 ≤ k) (hk15 : k < 15) (hsl : f.sub.length = 2) (hn : f.n = ⟨#[]⟩) (hIH : ∀ i (h : i < f.sub.length), WoAt f.sub[i]) : WoAt f := by
  intro B dn l n J Jx O W hJ hJx hnW hR h0 ⟨hB, hT, nB, nT, hO⟩
  have hsub : f.sub ≠ [] := fun h => by rw [h] at hsl; simp at hsl
  have hpw := words_list f k hk hsub
  rw [hpw] at hR ⊢
  clear hpw
  have hOW := hJ.lt h0
  have nY : ¬ O W.heap.size := fun h => by have := hOW _ h; omega
  have hb0 : Below W.heap.size W (W.alloc (.cells #[.func (.yield l) #[] #[]] 91)) := (Below.refl _ _).alloc (Nat.le_refl _) _
  have HBX := Lib.hid (hB.below hb0 hB.lt hB.dn)
  have HB0 := Lib.hid hb0
  have hcy : (W.alloc (.cells #[.func (.yield l) #[] #[]] 91)).cell? ⟨W.heap.size, 0, none⟩ = some (.func (.yield l) #[] #[]) := World.cell?_alloc_at _ _ _ _ rfl
  have hsg := (hT.2 k (by omega) (by omega)).1
  have hsz0 := hT.1
  obtain ⟨⟨v0, v1, v2, v3, c0, c1, c2, c3, hv⟩, hbl, hd⟩ := hB
  obtain ⟨rfl, _, rfl, _, hA, hS⟩ := hv
  obtain ⟨⟨a1, k1, rfl⟩, _⟩ := hA.form
  obtain ⟨⟨a2, k2, rfl⟩, _⟩ := hS.form
  rw [hsl] at c3
  rw [hk] at c0
  have hHeld : NdS B W.heap.size k (.int .u8 (k : Int)) (.string f.n) (.slice a1 f.args.length k1) (.slice a2 2 k2) l (W.alloc (.cells #[.func (.yield l) #[] #[]] 91)) :=
    ⟨(hb0.cell (p := ⟨B, 0, none⟩) hbl).trans c0, (hb0.cell (p := ⟨B, 1, none⟩) hbl).trans c1, (hb0.cell (p := ⟨B, 2, none⟩) hbl).trans c2, (hb0.cell (p := ⟨B, 3, none⟩) hbl).trans c3, hcy, (hb0.cell (p := ⟨0, _, none⟩) hsz0).trans hsg⟩
  have HL := Lib.hid hHeld
  have HT := Lib.hid hT
  have HSUB := Lib.hid hsl
  have HIH := Lib.hid hIH
  have HB := Lib.hid (show B < W.heap.size ∧ dn ≤ W.heap.size ∧ 0 < W.heap.size from ⟨hbl, hd, hsz0⟩)
  obtain ⟨nm, hnm⟩ : ∃ nm, f.n = nm := ⟨_, rfl⟩
  obtain ⟨al, hal⟩ : ∃ al, f.args.length = al := ⟨_, rfl⟩
  rw [hnm] at HL c1 hn hR ⊢
  obtain ⟨LL, hLL⟩ : ∃ LL, sgW k :: ((if nm.size = 0 then [] else [nm]) ++ f.sub.flatMap fun g => (pwB g).map bs) = LL := ⟨_, rfl⟩
  rw [hLL] at hR ⊢
  have HLL := Lib.hid hLL
  clear hLL
  rw [hal] at HL c2
  clear hA hS hsub hcy hb0 hHeld hT hIH hsl hsg
  refine callsIn_of_wp_marks Tryd.func52 rfl trivial ?_ rfl
  simp only [Tryd.ntmps52, List.size_toArray, List.length_cons, List.length_nil, Nat.reduceAdd, Nat.reduceSub, Array.replicate_succ, Array.replicate_zero, List.push_toArray, List.append_toArray, List.nil_append, List.cons_append]
  gi_wp2_with fail
  have hHeld := HL.out
  refine region_inS (NdS B W.heap.size k (.int .u8 (k : Int)) (.string nm) (.slice a1 al k1) (.slice a2 2 k2) l) 20 #[false, false, false, false, false, false, false, false, false, false, false, false, false, false, false, false, false, false, false, false] (by kernel_rfl) (by kernel_rfl) (by kernel_rfl) ⟨hHeld.c0, hHeld.c1, hHeld.c2, hHeld.c3, hHeld.y, hHeld.s⟩ (fun hHeld => ?_)
  refine anyInS_take (i := 0) (oi := ⟨some 14, _, _, _, _, _⟩) (v := .func (.yield l) #[] #[]) rfl rfl (by kernel_rfl) (by kernel_rfl) (by kernel_rfl) (fun _ _ _ h => Norm.panic h) (Or.inl ⟨by rfl, ?_⟩) (fun _ => rfl) (by assumption) ?_
  · intro w' hSw
    obtain ⟨t0, t1, t2, t3, t4, t5⟩ := hSw
    go_simp
  simp only [Act.put, List.setIfInBounds_toArray, List.set_cons_zero, List.set_cons_succ]
  refine anyInS_take (i := 1) (oi := ⟨some 15, _, _, _, _, _⟩) (v := .pointer (some ⟨B, 0, none⟩)) rfl rfl (by kernel_rfl) (by kernel_rfl) (by kernel_rfl) (fun _ _ _ h => Norm.panic h) (Or.inl ⟨by rfl, ?_⟩) (fun _ => rfl) (by assumption) ?_
  · intro w' hSw
    obtain ⟨t0, t1, t2, t3, t4, t5⟩ := hSw
    go_simp
  simp only [Act.put, List.setIfInBounds_toArray, List.set_cons_zero, List.set_cons_succ]
  refine anyInS_take (i := 2) (oi := ⟨some 16, _, _, _, _, _⟩) (v := .int .u8 (k : Int)) rfl rfl (by kernel_rfl) (by kernel_rfl) (by kernel_rfl) (fun _ _ _ h => Norm.panic h) (Or.inl ⟨by rfl, ?_⟩) (fun _ => rfl) (by assumption) ?_
  · intro w' hSw
    obtain ⟨t0, t1, t2, t3, t4, t5⟩ := hSw
    go_simp
  simp only [Act.put, List.setIfInBounds_toArray, List.set_cons_zero, List.set_cons_succ]
  refine anyInS_take (i := 3) (oi := ⟨some 17, _, _, _, _, _⟩) (v := .pointer (some ⟨0, k * 4, none⟩)) rfl rfl (by kernel_rfl) (by kernel_rfl) (by kernel_rfl) (fun _ _ _ h => Norm.panic h) (Or.inl ⟨by rfl, ?_⟩) (fun _ => rfl) (by assumption) ?_
  · intro w' hSw
    obtain ⟨t0, t1, t2, t3, t4, t5⟩ := hSw
    go_simp
    exact fun h => absurd h (by omega)
  simp only [Act.put, List.setIfInBounds_toArray, List.set_cons_zero, List.set_cons_succ]
  refine anyInS_take (i := 4) (oi := ⟨some 18, _, _, _, _, _⟩) (v := .pointer (some ⟨0, k * 4, none⟩)) rfl rfl (by kernel_rfl) (by kernel_rfl) (by kernel_rfl) (fun _ _ _ h => Norm.panic h) (Or.inl ⟨by rfl, ?_⟩) (fun _ => rfl) (by assumption) ?_
  · intro w' hSw
    obtain ⟨t0, t1, t2, t3, t4, t5⟩ := hSw
    go_simp
  simp only [Act.put, List.setIfInBounds_toArray, List.set_cons_zero, List.set_cons_succ]
  refine anyInS_take (i := 5) (oi := ⟨some 19, _, _, _, _, _⟩) (v := .string (sgT k)) rfl rfl (by kernel_rfl) (by kernel_rfl) (by kernel_rfl) (fun _ _ _ h => Norm.panic h) (Or.inl ⟨by rfl, ?_⟩) (fun _ => rfl) (by assumption) ?_
  · intro w' hSw
    obtain ⟨t0, t1, t2, t3, t4, t5⟩ := hSw
    go_simp
  simp only [Act.put, List.setIfInBounds_toArray, List.set_cons_zero, List.set_cons_succ]
  have hX : Below W.heap.size W (W.alloc (.cells #[.func (.yield l) #[] #[]] 91)).drew := HB0.out.drew
  have hBX2 := HBX.out.below (m := (W.alloc (.cells #[.func (.yield l) #[] #[]] 91)).heap.size) (Below.refl _ _).drew (by rw [World.size_alloc]; omega) (by rw [World.size_alloc]; omega)
  have hzX1 : W.heap.size + 1 = (W.alloc (.cells #[.func (.yield l) #[] #[]] 91)).drew.heap.size := by simp
  clear HL
  generalize hXX : (W.alloc (.cells #[.func (.yield l) #[] #[]] 91)).drew = X at *
  clear hXX HBX HB0
  have h0X : J 0 O X := hJ.keep h0 (hX.mono hnW) (fun b hb => hX.block b (hOW b hb))
  have hst : NdR f dn B W.heap.size l X O := ⟨hBX2, HT.out.below hX, hHeld.y, by omega, nB, nT, nY, hO, HB.out.1⟩
  have hgX : Grow O W X := Grow.of_below hX
  obtain ⟨fn, tmps, assign, body, hy, hRd⟩ := hR 0 _ O X #[.string (sgT k)] h0X (by rw [← HLL.out, sg_eq hk3 hk15]; rfl) rfl
  have HST := Lib.hid hst
  have HGX := Lib.hid hgX
  clear hst hgX hBX2
  refine anyInS_one (i := 6) (oi := ⟨some 20, _, _, _, _, _⟩) rfl (by kernel_rfl) (by rfl) (fun _ _ => trivial) (fun K hK => ?_)
  unfold Oper.wpIn
  refine ⟨fun _ _ => trivial, ?_⟩
  go_simp
  refine ⟨rfl, RoundIn.mono hRd ?_⟩
  clear hRd hy
  rintro e U ⟨O4, hs4, hg4, (⟨rfl, h4⟩ | ⟨rfl, h4⟩)⟩
  · have hHU := hHeld.grow hg4 HST.out.bl HST.out.yl HST.out.st.1 HST.out.nb HST.out.ny HST.out.nt
    have HST2 := Lib.hid (HST.out.yield hs4 hg4)
    have HG2 := Lib.hid (HGX.out.trans hg4 (Sub.refl _ _))
    have HS2 := Lib.hid (show Fm.Sub O W.heap.size O4 from (Sub.refl _ _).trans hs4 (by omega))
    have HJ4 := Lib.hid h4
    clear hs4 hg4 h4
    refine hK _ _ hHU ?_
    clear hK K hHeld
    simp only [Act.put, List.setIfInBounds_toArray, List.set_cons_zero, List.set_cons_succ]
    refine anyInS_take (i := 7) (oi := ⟨some 21, _, _, _, _, _⟩) (v := .bool false) rfl rfl (by kernel_rfl) (by kernel_rfl) (by kernel_rfl) (fun _ _ _ h => Norm.panic h) (Or.inl ⟨by rfl, ?_⟩) (fun _ => rfl) (by assumption) ?_
    · intro w' hSw
      obtain ⟨t0, t1, t2, t3, t4, t5⟩ := hSw
      go_simp
    simp only [Act.put, List.setIfInBounds_toArray, List.set_cons_zero, List.set_cons_succ]
    refine anyInS_take (i := 8) (oi := ⟨some 22, _, _, _, _, _⟩) (v := .bool false) rfl rfl (by kernel_rfl) (by kernel_rfl) (by kernel_rfl) (fun _ _ _ h => Norm.panic h) (Or.inl ⟨by rfl, ?_⟩) (fun _ => rfl) (by assumption) ?_
    · intro w' hSw
      obtain ⟨t0, t1, t2, t3, t4, t5⟩ := hSw
      go_simp
    simp only [Act.put, List.setIfInBounds_toArray, List.set_cons_zero, List.set_cons_succ]
    refine anyInS_take (i := 9) (oi := ⟨some 23, _, _, _, _, _⟩) (v := .pointer (some ⟨B, 1, none⟩)) rfl rfl (by kernel_rfl) (by kernel_rfl) (by kernel_rfl) (fun _ _ _ h => Norm.panic h) (Or.inl ⟨by rfl, ?_⟩) (fun _ => rfl) (by assumption) ?_
    · intro w' hSw
      obtain ⟨t0, t1, t2, t3, t4, t5⟩ := hSw
      go_simp
    simp only [Act.put, List.setIfInBounds_toArray, List.set_cons_zero, List.set_cons_succ]
    refine anyInS_take (i := 10) (oi := ⟨some 24, _, _, _, _, _⟩) (v := .string nm) rfl rfl (by kernel_rfl) (by kernel_rfl) (by kernel_rfl) (fun _ _ _ h => Norm.panic h) (Or.inl ⟨by rfl, ?_⟩) (fun _ => rfl) (by assumption) ?_
    · intro w' hSw
      obtain ⟨t0, t1, t2, t3, t4, t5⟩ := hSw
      go_simp
    simp only [Act.put, List.setIfInBounds_toArray, List.set_cons_zero, List.set_cons_succ]
    refine anyInS_take (i := 11) (oi := ⟨some 25, _, _, _, _, _⟩) (v := .bool false) rfl rfl (by kernel_rfl) (by kernel_rfl) (by kernel_rfl) (fun _ _ _ h => Norm.panic h) (Or.inl ⟨by rfl, ?_⟩) (fun _ => rfl) (by assumption) ?_
    · intro w' hSw
      obtain ⟨t0, t1, t2, t3, t4, t5⟩ := hSw
      go_simp
      first | done | (rw [hn]; rfl) | simp [hn]
    simp only [Act.put, List.setIfInBounds_toArray, List.set_cons_zero, List.set_cons_succ]
    refine anyInS_take (i := 12) (oi := ⟨some 26, _, _, _, _, _⟩) (v := .bool false) rfl rfl (by kernel_rfl) (by kernel_rfl) (by kernel_rfl) (fun _ _ _ h => Norm.panic h) (Or.inl ⟨by rfl, ?_⟩) (fun _ => rfl) (by assumption) ?_
    · intro w' hSw
      obtain ⟨t0, t1, t2, t3, t4, t5⟩ := hSw
      go_simp
    simp only [Act.put, List.setIfInBounds_toArray, List.set_cons_zero, List.set_cons_succ]
    refine anyInS_take (i := 13) (oi := ⟨some 27, _, _, _, _, _⟩) (v := undef) rfl rfl (by kernel_rfl) (by kernel_rfl) (by kernel_rfl) (fun _ _ _ h => Norm.panic h) (Or.inr ⟨by rfl, rfl⟩) (fun _ => rfl) (by assumption) ?_
    simp only [Act.put, List.setIfInBounds_toArray, List.set_cons_zero, List.set_cons_succ]
    refine anyInS_take (i := 14) (oi := ⟨some 28, _, _, _, _, _⟩) (v := undef) rfl rfl (by kernel_rfl) (by kernel_rfl) (by kernel_rfl) (fun _ _ _ h => Norm.panic h) (Or.inr ⟨by rfl, rfl⟩) (fun _ => rfl) (by assumption) ?_
    simp only [Act.put, List.setIfInBounds_toArray, List.set_cons_zero, List.set_cons_succ]
    refine anyInS_take (i := 15) (oi := ⟨some 29, _, _, _, _, _⟩) (v := undef) rfl rfl (by kernel_rfl) (by kernel_rfl) (by kernel_rfl) (fun _ _ _ h => Norm.panic h) (Or.inr ⟨by rfl, rfl⟩) (fun _ => rfl) (by assumption) ?_
    simp only [Act.put, List.setIfInBounds_toArray, List.set_cons_zero, List.set_cons_succ]
    refine anyInS_take (i := 16) (oi := ⟨some 30, _, _, _, _, _⟩) (v := undef) rfl rfl (by kernel_rfl) (by kernel_rfl) (by kernel_rfl) (fun _ _ _ h => Norm.panic h) (Or.inr ⟨by rfl, rfl⟩) (fun _ => rfl) (by assumption) ?_
    simp only [Act.put, List.setIfInBounds_toArray, List.set_cons_zero, List.set_cons_succ]
    refine anyInS_take (i := 17) (oi := ⟨some 31, _, _, _, _, _⟩) (v := undef) rfl rfl (by kernel_rfl) (by kernel_rfl) (by kernel_rfl) (fun _ _ _ h => Norm.panic h) (Or.inr ⟨by rfl, rfl⟩) (fun _ => rfl) (by assumption) ?_
    simp only [Act.put, List.setIfInBounds_toArray, List.set_cons_zero, List.set_cons_succ]
    refine anyInS_take (i := 18) (oi := ⟨some 32, _, _, _, _, _⟩) (v := .bool false) rfl rfl (by kernel_rfl) (by kernel_rfl) (by kernel_rfl) (fun _ _ _ h => Norm.panic h) (Or.inl ⟨by rfl, ?_⟩) (fun _ => rfl) (by assumption) ?_
    · intro w' hSw
      obtain ⟨t0, t1, t2, t3, t4, t5⟩ := hSw
      go_simp
    simp only [Act.put, List.setIfInBounds_toArray, List.set_cons_zero, List.set_cons_succ]
    refine anyInS_take (i := 19) (oi := ⟨some 33, _, _, _, _, _⟩) (v := .bool false) rfl rfl (by kernel_rfl) (by kernel_rfl) (by kernel_rfl) (fun _ _ _ h => Norm.panic h) (Or.inl ⟨by rfl, ?_⟩) (fun _ => rfl) (by assumption) ?_
    · intro w' hSw
      obtain ⟨t0, t1, t2, t3, t4, t5⟩ := hSw
      go_simp
    simp only [Act.put, List.setIfInBounds_toArray, List.set_cons_zero, List.set_cons_succ]
    refine anyInS_done (by kernel_rfl) ?_
    refine Norm.normal ?_
    have c3 := hHU.c3
    obtain ⟨M0, hM0⟩ : ∃ m, mAt f nm 0 = m := ⟨_, rfl⟩
    obtain ⟨M1, hM1⟩ : ∃ m, mAt f nm 1 = m := ⟨_, rfl⟩
    obtain ⟨M2, hM2⟩ : ∃ m, mAt f nm 2 = m := ⟨_, rfl⟩
    have HM0 := Lib.hid (show M0 = 1 by rw [← hM0, mAt_zero]; rw [hn]; rfl)
    have HME := Lib.hid ((mAt_end HLL.out HSUB.out).symm.trans hM2)
    have hsi : 0 < f.sub.length := by rw [HSUB.out]; omega
    have hwo := HIH.out 0 hsi
    obtain ⟨⟨v0, v1, v2, v3, d0, d1, d2, d3, hv⟩, _, hd'⟩ := HST2.out.b
    obtain rfl : v3 = .slice a2 2 k2 := Option.some.inj (d3.symm.trans c3)
    obtain ⟨-, b0, o0, he2, hbn, x00, x01, x02, x03, e0, e1, e2, e3, hu⟩ := hv.sub.get hsi
    obtain rfl := he2
    obtain ⟨g0, hg0⟩ : ∃ g, f.sub[0] = g := ⟨_, rfl⟩
    rw [hg0] at hu hwo
    have HG0 := Lib.hid (show f.sub[0]? = some g0 from by rw [List.getElem?_eq_getElem hsi, hg0])
    obtain ⟨⟨a05, k05, rfl⟩, _⟩ := hu.args.form
    obtain ⟨⟨a06, k06, rfl⟩, _⟩ := hu.sub.form
    obtain rfl := hu.op
    obtain rfl := hu.nm
    simp only [Nat.zero_mul, Nat.one_mul, Nat.add_zero] at e0 e1 e2 e3
    have HU0 := Lib.hid (⟨hu, hwo, hbn, hd'⟩ : _ ∧ _ ∧ _ ∧ _)
    clear d0 d1 d2 d3 hv hd' hu hwo hg0 hsi hbn
    clear hHU c0 c1 c2 hHeld hX hzX1 h0X hn
    gi_wp2_with fail
    refine wpIn_loop_rounds 3 ?_
    rw [roundsIn_succ]
    gi_wp2_with fail
    have hbA0 : Below U.heap.size U (U.alloc (.cells #[.int .u8 g0.op, .string g0.n, .slice a05 g0.args.length k05, .slice a06 g0.sub.length k06] 25)) := (Below.refl _ _).alloc (Nat.le_refl _) _
    refine ⟨trivial, rfl, (words_in _ _ _ _ g0 dn _ (HU0.out.1.below hbA0 HU0.out.2.2.2) (by rw [World.size_alloc]; have := HU0.out.2.2.2; omega)).mono ?_⟩
    rintro e V0 ⟨rfl, hb1, hbox, hz1⟩
    rw [World.size_alloc] at hb1 hbox hz1
    rw [World.size_alloc]
    have hz0 : V0.heap.size ≤ U.heap.size + 2 ∧ U.heap.size + 2 ≤ V0.heap.size := by omega
    have hbw : Below U.heap.size U V0 := hbA0.trans (hb1.mono (by omega))
    have hdU := HU0.out.2.2.2
    have hyU := HST2.out.yl
    have hsU := HST2.out.st.1
    have hltU := hJ.lt HJ4.out
    have hstV := HST2.out.below hbw hyU hdU hsU
    have HSTV0 := Lib.hid hstV
    have hjV := hJ.below HJ4.out hbw (by have := HB.out; omega)
    have HGV0 := Lib.hid (HG2.out.trans (Grow.of_below (O := O4) hbw) HS2.out)
    have HBV0 := Lib.hid (⟨hbox, hstV.st⟩ : _ ∧ _)
    have hmg := mAt_get HLL.out HG0.out
    have hms := mAt_succ (nm := nm) HG0.out
    rw [hM0] at hmg hms
    rw [hM1] at hms
    have HMG0 := Lib.hid hmg
    have HMS0 := Lib.hid hms
    have HC0 := Lib.hid ((hbw.cell (p := ⟨B, 3, none⟩) (by show B < _; omega)).trans c3)
    skip
    clear e0 e1 e2 e3 c3 hb1 hz1 hbA0 hbw hmg hms
    gi_wp2_with fail
    refine range_law (gf := 52) (lb := #[.pointer (some ⟨U.heap.size + 1, 0, none⟩)]) rfl (enters_of Tryd.func52 (by kernel_rfl) rfl) (HU0.out.2.1 (U.heap.size + 1) dn)
      (by rintro W x args rfl; rfl) (NJ f dn B W.heap.size l M0 J) (TJx Jx) O4 (NJ.fr hJ (by omega) (by omega) (by omega) (by omega)) (fun c => TJx.fr hJx (by omega) c)
      ⟨by rw [Nat.add_zero, HM0.out]; exact hjV, HSTV0.out⟩
      (fun O' W' hb' hs' => ⟨HBV0.out.1.below hb' (by omega) (by omega), HBV0.out.2.below hb' (Nat.le_refl _), fun h => (hs' _ h).elim (fun h => by have := hltU _ h; omega) fun h => by omega, fun h => (hs' _ h).elim HSTV0.out.nt fun h => by omega, fun b hb => (hs' b hb).elim (HSTV0.out.od b) fun h => by omega⟩)
      (fun i x args W2 a1 W3 => W3 = W2 ∧ ∃ u3 u4 u6 u8 u9 u10 u11 u12 u13 u14 u15 u16 u17 u18 u19 u20 u21 u22 u23 u24 u25 u26 u27 u28 u29 u30 u31 u32 u33 u34 u38 u39 u40 u41 u42 u44 u45 u46 u47 u48, a1 = { tmps := #[.func (.yield l) #[] #[], .pointer (some ⟨B, 0, none⟩), .pointer (some ⟨W.heap.size, 0, none⟩), u3, u4, .string x, u6, .slice (some ⟨b0, o0, none⟩) 2 k2, u8, u9, u10, u11, u12, u13, u14, u15, u16, u17, u18, u19, u20, u21, u22, u23, u24, u25, u26, u27, u28, u29, u30, u31, u32, u33, u34, .slice (some ⟨b0, o0, none⟩) 2 k2, .int .i64 2, .int .i64 0, u38, u39, u40, u41, u42, .string x, u44, u45, u46, u47, u48], defers := [] }) ?assign0 ?body0 ?done0 ?stop0
    case assign0 =>
      rintro l2 i x O2 W2 args hj hx rfl
      clear hj hjV hstV hbox
      gi_wp2
      exact ⟨Below.refl _ _, trivial, _, _, _, _, _, _, _, _, _, _, _, _, _, _, _, _, _, _, _, _, _, _, _, _, _, _, _, _, _, _, _, _, _, _, _, _, _, _, _, _, rfl⟩
    case body0 =>
      rintro l2 i x O2 W2 args _ _ W3 ⟨rfl, u3, u4, u6, u8, u9, u10, u11, u12, u13, u14, u15, u16, u17, u18, u19, u20, u21, u22, u23, u24, u25, u26, u27, u28, u29, u30, u31, u32, u33, u34, u38, u39, u40, u41, u42, u44, u45, u46, u47, u48, rfl⟩ hj hx hrep hbb hbl hz3 hne hl2 hl3 hol
      have hxl := HMG0.out i x hx
      obtain ⟨fn, tmps, assign, body, hy, hRd⟩ := hR (M0 + i) x O2 W3 #[.string x] hj.j hxl rfl
      have hj1 := hj.r.y
      have HJ := Lib.hid hj
      clear hj hx hxl hrep hbb hbl hne hjV hstV hbox
      gi_wp2_with fail
      refine ⟨rfl, RoundIn.mono hRd ?_⟩
      clear hRd hy
      rintro e W4 ⟨O5, hs4, hg4, (⟨rfl, h4⟩ | ⟨rfl, h4⟩)⟩
      · have HJ5 := Lib.hid (⟨h4, HJ.out.r.yield hs4 hg4⟩ : NJ f dn B W.heap.size l M0 J (i + 1) O5 W4)
        clear h4 hj1
        gi_wp2
        exact ⟨O5, hs4, hg4, HJ5.out⟩
      · clear hj1
        gi_wp2
        exact ⟨O5, hs4, hg4, rfl, h4⟩
    case stop0 =>
      rintro c O5 W5 ⟨rfl, hx⟩ hs5 nD5 hg5 hK5
      have hF := hJx.taken (k := 0) hx (D := V0.heap.size) (by omega) nD5 (.deferred none)
      have hG := (HGV0.out.trans hg5 HS2.out).taken (D := V0.heap.size) (by omega) (.deferred none)
      have hS : Fm.Sub O W.heap.size O5 := HS2.out.trans hs5 (by omega)
      clear hjV hstV hbox
      gi_wp2
      refine ⟨by simp, .inl ⟨_, _, rfl, run_takeDeferred hK5, ?_⟩⟩
      exact ⟨_, results_none rfl _ _ _, ⟨_, rfl⟩, O5, hS, hG, .inr hF⟩
    case done0 =>
      rintro O5 W5 hj hs5 nD5 hg5 hK5
      have hx := hj.j
      rw [HMS0.out] at hx
      have HSTD := Lib.hid hj.r
      have HGD := Lib.hid (HGV0.out.trans hg5 HS2.out)
      have HSD := Lib.hid (show Fm.Sub O W.heap.size O5 from HS2.out.trans hs5 (by omega))
      have HJD := Lib.hid hx
      have HKD := Lib.hid (⟨nD5, hK5⟩ : _ ∧ _)
      have hzD := hg5.size
      have c3 := (hg5.cell (p := ⟨B, 3, none⟩) (by show B < _; omega) HSTV0.out.nb).trans HC0.out
      clear hjV hstV hbox hj hx hs5 nD5 hg5 hK5 hltU
      have hsi : 1 < f.sub.length := by rw [HSUB.out]; omega
      have hwo := HIH.out 1 hsi
      obtain ⟨⟨v0, v1, v2, v3, d0, d1, d2, d3, hv⟩, _, hd'⟩ := HSTD.out.b
      obtain rfl : v3 = .slice (some ⟨b0, o0, none⟩) 2 k2 := Option.some.inj (d3.symm.trans c3)
      obtain ⟨-, b1, o1, he2, hbn, x10, x11, x12, x13, e0, e1, e2, e3, hu⟩ := hv.sub.get hsi
      simp only [Option.some.injEq, Addr.mk.injEq, and_true] at he2
      obtain ⟨rfl, rfl⟩ := he2
      obtain ⟨g1, hg1⟩ : ∃ g, f.sub[1] = g := ⟨_, rfl⟩
      rw [hg1] at hu hwo
      have HG1 := Lib.hid (show f.sub[1]? = some g1 from by rw [List.getElem?_eq_getElem hsi, hg1])
      obtain ⟨⟨a15, k15, rfl⟩, _⟩ := hu.args.form
      obtain ⟨⟨a16, k16, rfl⟩, _⟩ := hu.sub.form
      obtain rfl := hu.op
      obtain rfl := hu.nm
      simp only [Nat.zero_mul, Nat.one_mul, Nat.add_zero] at e0 e1 e2 e3
      have HU1 := Lib.hid (⟨hu, hwo, hbn, hd'⟩ : _ ∧ _ ∧ _ ∧ _)
      clear d0 d1 d2 d3 hv hd' hu hwo hg1 hsi hbn
      gi_wp2_with fail
      rw [roundsIn_succ]
      gi_wp2_with fail
      have hbA1 : Below W5.heap.size W5 (W5.alloc (.cells #[.int .u8 g1.op, .string g1.n, .slice a15 g1.args.length k15, .slice a16 g1.sub.length k16] 25)) := (Below.refl _ _).alloc (Nat.le_refl _) _
      refine ⟨trivial, rfl, (words_in _ _ _ _ g1 dn _ (HU1.out.1.below hbA1 HU1.out.2.2.2) (by rw [World.size_alloc]; have := HU1.out.2.2.2; omega)).mono ?_⟩
      rintro e V1 ⟨rfl, hb1, hbox, hz1⟩
      rw [World.size_alloc] at hb1 hbox hz1
      rw [World.size_alloc]
      have hz1 : V1.heap.size ≤ W5.heap.size + 2 ∧ W5.heap.size + 2 ≤ V1.heap.size := by omega
      have hbw : Below W5.heap.size W5 V1 := hbA1.trans (hb1.mono (by omega))
      have hdU := HU1.out.2.2.2
      have hyU := HSTD.out.yl
      have hsU := HSTD.out.st.1
      have hltU := hJ.lt HJD.out
      have hstV := HSTD.out.below hbw hyU hdU hsU
      have HSTV1 := Lib.hid hstV
      have hjV := hJ.below HJD.out hbw (by have := HB.out; omega)
      have HGV1 := Lib.hid (HGD.out.trans (Grow.of_below (O := O5) hbw) HSD.out)
      have HBV1 := Lib.hid (⟨hbox, hstV.st⟩ : _ ∧ _)
      have hmg := mAt_get HLL.out HG1.out
      have hms := mAt_succ (nm := nm) HG1.out
      rw [hM1] at hmg hms
      rw [hM2] at hms
      have HMG1 := Lib.hid hmg
      have HMS1 := Lib.hid hms
      have HC1 := Lib.hid ((hbw.cell (p := ⟨B, 3, none⟩) (by show B < _; omega)).trans c3)
      have HK0 := Lib.hid (⟨HKD.out.1, (hbw.block _ (lt_of_heap HKD.out.2)).trans HKD.out.2⟩ : _ ∧ _)
      clear e0 e1 e2 e3 c3 hb1 hz1 hbA1 hbw hmg hms
      gi_wp2_with fail
      refine range_law (gf := 52) (lb := #[.pointer (some ⟨W5.heap.size + 1, 0, none⟩)]) rfl (enters_of Tryd.func52 (by kernel_rfl) rfl) (HU1.out.2.1 (W5.heap.size + 1) dn)
        (by rintro W x args rfl; rfl) (NJ f dn B W.heap.size l M1 J) (TJx Jx) O5 (NJ.fr hJ (by omega) (by omega) (by omega) (by omega)) (fun c => TJx.fr hJx (by omega) c)
        ⟨by rw [Nat.add_zero]; exact hjV, HSTV1.out⟩
        (fun O' W' hb' hs' => ⟨HBV1.out.1.below hb' (by omega) (by omega), HBV1.out.2.below hb' (Nat.le_refl _), fun h => (hs' _ h).elim (fun h => by have := hltU _ h; omega) fun h => by omega, fun h => (hs' _ h).elim HSTV1.out.nt fun h => by omega, fun b hb => (hs' b hb).elim (HSTV1.out.od b) fun h => by omega⟩)
        (fun i x args W2 a1 W3 => W3 = W2 ∧ ∃ u3 u4 u6 u8 u9 u10 u11 u12 u13 u14 u15 u16 u17 u18 u19 u20 u21 u22 u23 u24 u25 u26 u27 u28 u29 u30 u31 u32 u33 u34 u38 u39 u40 u41 u42 u44 u45 u46 u47 u48, a1 = { tmps := #[.func (.yield l) #[] #[], .pointer (some ⟨B, 0, none⟩), .pointer (some ⟨W.heap.size, 0, none⟩), u3, u4, .string x, u6, .slice (some ⟨b0, o0, none⟩) 2 k2, u8, u9, u10, u11, u12, u13, u14, u15, u16, u17, u18, u19, u20, u21, u22, u23, u24, u25, u26, u27, u28, u29, u30, u31, u32, u33, u34, .slice (some ⟨b0, o0, none⟩) 2 k2, .int .i64 2, .int .i64 1, u38, u39, u40, u41, u42, .string x, u44, u45, u46, u47, u48], defers := [] }) ?assign1 ?body1 ?done1 ?stop1
      case assign1 =>
        rintro l2 i x O2 W2 args hj hx rfl
        clear hj hjV hstV hbox
        gi_wp2
        exact ⟨Below.refl _ _, trivial, _, _, _, _, _, _, _, _, _, _, _, _, _, _, _, _, _, _, _, _, _, _, _, _, _, _, _, _, _, _, _, _, _, _, _, _, _, _, _, _, rfl⟩
      case body1 =>
        rintro l2 i x O2 W2 args _ _ W3 ⟨rfl, u3, u4, u6, u8, u9, u10, u11, u12, u13, u14, u15, u16, u17, u18, u19, u20, u21, u22, u23, u24, u25, u26, u27, u28, u29, u30, u31, u32, u33, u34, u38, u39, u40, u41, u42, u44, u45, u46, u47, u48, rfl⟩ hj hx hrep hbb hbl hz3 hne hl2 hl3 hol
        have hxl := HMG1.out i x hx
        obtain ⟨fn, tmps, assign, body, hy, hRd⟩ := hR (M1 + i) x O2 W3 #[.string x] hj.j hxl rfl
        have hj1 := hj.r.y
        have HJ := Lib.hid hj
        clear hj hx hxl hrep hbb hbl hne hjV hstV hbox
        gi_wp2_with fail
        refine ⟨rfl, RoundIn.mono hRd ?_⟩
        clear hRd hy
        rintro e W4 ⟨O5, hs4, hg4, (⟨rfl, h4⟩ | ⟨rfl, h4⟩)⟩
        · have HJ5 := Lib.hid (⟨h4, HJ.out.r.yield hs4 hg4⟩ : NJ f dn B W.heap.size l M1 J (i + 1) O5 W4)
          clear h4 hj1
          gi_wp2
          exact ⟨O5, hs4, hg4, HJ5.out⟩
        · clear hj1
          gi_wp2
          exact ⟨O5, hs4, hg4, rfl, h4⟩
      case stop1 =>
        rintro c O5 W5 ⟨rfl, hx⟩ hs5 nD5 hg5 hK5
        have hn1 : ¬ O5 V0.heap.size := fun h => (hs5 _ h).elim HK0.out.1 fun h => by omega
        have hK1 : W5.heap[V0.heap.size]? = some (.deferred (some [])) := (hg5.block _ (lt_of_heap HK0.out.2) HK0.out.1).trans HK0.out.2
        have hne1 : (W5.putObj V1.heap.size (.deferred none)).heap[V0.heap.size]? = some (.deferred (some [])) := (World.putObj_heap_other (by have := lt_of_heap HK0.out.2; omega)).trans hK1
        have hF := hJx.taken (k := 0) (hJx.taken (k := 0) hx (D := V1.heap.size) (by omega) nD5 (.deferred none)) (D := V0.heap.size) (by omega) hn1 (.deferred none)
        have hG := ((HGV1.out.trans hg5 HSD.out).taken (D := V1.heap.size) (by omega) (.deferred none)).taken (D := V0.heap.size) (by omega) (.deferred none)
        have hS : Fm.Sub O W.heap.size O5 := HSD.out.trans hs5 (by omega)
        clear hjV hstV hbox
        gi_wp2
        refine ⟨by simp, .inl ⟨_, _, rfl, run_takeDeferred hK5, ?_⟩⟩
        refine ⟨by simp, .inl ⟨_, _, rfl, run_takeDeferred hne1, ?_⟩⟩
        exact ⟨_, results_none rfl _ _ _, ⟨_, rfl⟩, O5, hS, hG, .inr hF⟩
      case done1 =>
        rintro O5 W5 hj hs5 nD5 hg5 hK5
        have hx := hj.j
        rw [HMS1.out] at hx
        rw [HME.out.symm] at hx
        have hn1 : ¬ O5 V0.heap.size := fun h => (hs5 _ h).elim HK0.out.1 fun h => by omega
        have hK1 : W5.heap[V0.heap.size]? = some (.deferred (some [])) := (hg5.block _ (lt_of_heap HK0.out.2) HK0.out.1).trans HK0.out.2
        have hne1 : (W5.putObj V1.heap.size (.deferred none)).heap[V0.heap.size]? = some (.deferred (some [])) := (World.putObj_heap_other (by have := lt_of_heap HK0.out.2; omega)).trans hK1
        have hF := hJ.taken (hJ.taken hx (D := V1.heap.size) (by omega) nD5 (.deferred none)) (D := V0.heap.size) (by omega) hn1 (.deferred none)
        have hG := ((HGV1.out.trans hg5 HSD.out).taken (D := V1.heap.size) (by omega) (.deferred none)).taken (D := V0.heap.size) (by omega) (.deferred none)
        have hS : Fm.Sub O W.heap.size O5 := HSD.out.trans hs5 (by omega)
        clear hjV hstV hbox hj hx
        gi_wp2_with fail
        rw [roundsIn_succ]
        gi_wp2
        refine ⟨by simp, .inl ⟨_, _, rfl, run_takeDeferred hK5, ?_⟩⟩
        refine ⟨by simp, .inl ⟨_, _, rfl, run_takeDeferred hne1, ?_⟩⟩
        exact ⟨_, results_none rfl _ _ _, ⟨_, rfl⟩, O5, hS, hG, .inl hF⟩
  · have hHU := hHeld.grow hg4 HST.out.bl HST.out.yl HST.out.st.1 HST.out.nb HST.out.ny HST.out.nt
    have HF := Lib.hid (show ∃ O', Fm.Sub O W.heap.size O' ∧ Grow O W U ∧ (J LL.length O' U ∨ Jx O' U) from ⟨O4, (Sub.refl _ _).trans hs4 (by omega), HGX.out.trans hg4 (Sub.refl _ _), .inr h4⟩)
    clear hs4 hg4 h4
    refine hK _ _ hHU ?_
    clear hK K hHeld
    simp only [Act.put, List.setIfInBounds_toArray, List.set_cons_zero, List.set_cons_succ]
    refine anyInS_take (i := 7) (oi := ⟨some 21, _, _, _, _, _⟩) (v := .bool true) rfl rfl (by kernel_rfl) (by kernel_rfl) (by kernel_rfl) (fun _ _ _ h => Norm.panic h) (Or.inl ⟨by rfl, ?_⟩) (fun _ => rfl) (by assumption) ?_
    · intro w' hSw
      obtain ⟨t0, t1, t2, t3, t4, t5⟩ := hSw
      go_simp
    simp only [Act.put, List.setIfInBounds_toArray, List.set_cons_zero, List.set_cons_succ]
    refine anyInS_take (i := 8) (oi := ⟨some 22, _, _, _, _, _⟩) (v := .bool true) rfl rfl (by kernel_rfl) (by kernel_rfl) (by kernel_rfl) (fun _ _ _ h => Norm.panic h) (Or.inl ⟨by rfl, ?_⟩) (fun _ => rfl) (by assumption) ?_
    · intro w' hSw
      obtain ⟨t0, t1, t2, t3, t4, t5⟩ := hSw
      go_simp
    simp only [Act.put, List.setIfInBounds_toArray, List.set_cons_zero, List.set_cons_succ]
    refine anyInS_take (i := 9) (oi := ⟨some 23, _, _, _, _, _⟩) (v := undef) rfl rfl (by kernel_rfl) (by kernel_rfl) (by kernel_rfl) (fun _ _ _ h => Norm.panic h) (Or.inr ⟨by rfl, rfl⟩) (fun _ => rfl) (by assumption) ?_
    simp only [Act.put, List.setIfInBounds_toArray, List.set_cons_zero, List.set_cons_succ]
    refine anyInS_take (i := 10) (oi := ⟨some 24, _, _, _, _, _⟩) (v := undef) rfl rfl (by kernel_rfl) (by kernel_rfl) (by kernel_rfl) (fun _ _ _ h => Norm.panic h) (Or.inr ⟨by rfl, rfl⟩) (fun _ => rfl) (by assumption) ?_
    simp only [Act.put, List.setIfInBounds_toArray, List.set_cons_zero, List.set_cons_succ]
    refine anyInS_take (i := 11) (oi := ⟨some 25, _, _, _, _, _⟩) (v := undef) rfl rfl (by kernel_rfl) (by kernel_rfl) (by kernel_rfl) (fun _ _ _ h => Norm.panic h) (Or.inr ⟨by rfl, rfl⟩) (fun _ => rfl) (by assumption) ?_
    simp only [Act.put, List.setIfInBounds_toArray, List.set_cons_zero, List.set_cons_succ]
    refine anyInS_take (i := 12) (oi := ⟨some 26, _, _, _, _, _⟩) (v := undef) rfl rfl (by kernel_rfl) (by kernel_rfl) (by kernel_rfl) (fun _ _ _ h => Norm.panic h) (Or.inr ⟨by rfl, rfl⟩) (fun _ => rfl) (by assumption) ?_
    simp only [Act.put, List.setIfInBounds_toArray, List.set_cons_zero, List.set_cons_succ]
    refine anyInS_take (i := 13) (oi := ⟨some 27, _, _, _, _, _⟩) (v := undef) rfl rfl (by kernel_rfl) (by kernel_rfl) (by kernel_rfl) (fun _ _ _ h => Norm.panic h) (Or.inr ⟨by rfl, rfl⟩) (fun _ => rfl) (by assumption) ?_
    simp only [Act.put, List.setIfInBounds_toArray, List.set_cons_zero, List.set_cons_succ]
    refine anyInS_take (i := 14) (oi := ⟨some 28, _, _, _, _, _⟩) (v := undef) rfl rfl (by kernel_rfl) (by kernel_rfl) (by kernel_rfl) (fun _ _ _ h => Norm.panic h) (Or.inr ⟨by rfl, rfl⟩) (fun _ => rfl) (by assumption) ?_
    simp only [Act.put, List.setIfInBounds_toArray, List.set_cons_zero, List.set_cons_succ]
    refine anyInS_take (i := 15) (oi := ⟨some 29, _, _, _, _, _⟩) (v := undef) rfl rfl (by kernel_rfl) (by kernel_rfl) (by kernel_rfl) (fun _ _ _ h => Norm.panic h) (Or.inr ⟨by rfl, rfl⟩) (fun _ => rfl) (by assumption) ?_
    simp only [Act.put, List.setIfInBounds_toArray, List.set_cons_zero, List.set_cons_succ]
    refine anyInS_take (i := 16) (oi := ⟨some 30, _, _, _, _, _⟩) (v := undef) rfl rfl (by kernel_rfl) (by kernel_rfl) (by kernel_rfl) (fun _ _ _ h => Norm.panic h) (Or.inr ⟨by rfl, rfl⟩) (fun _ => rfl) (by assumption) ?_
    simp only [Act.put, List.setIfInBounds_toArray, List.set_cons_zero, List.set_cons_succ]
    refine anyInS_take (i := 17) (oi := ⟨some 31, _, _, _, _, _⟩) (v := undef) rfl rfl (by kernel_rfl) (by kernel_rfl) (by kernel_rfl) (fun _ _ _ h => Norm.panic h) (Or.inr ⟨by rfl, rfl⟩) (fun _ => rfl) (by assumption) ?_
    simp only [Act.put, List.setIfInBounds_toArray, List.set_cons_zero, List.set_cons_succ]
    refine anyInS_take (i := 18) (oi := ⟨some 32, _, _, _, _, _⟩) (v := undef) rfl rfl (by kernel_rfl) (by kernel_rfl) (by kernel_rfl) (fun _ _ _ h => Norm.panic h) (Or.inr ⟨by rfl, rfl⟩) (fun _ => rfl) (by assumption) ?_
    simp only [Act.put, List.setIfInBounds_toArray, List.set_cons_zero, List.set_cons_succ]
    refine anyInS_take (i := 19) (oi := ⟨some 33, _, _, _, _, _⟩) (v := .bool true) rfl rfl (by kernel_rfl) (by kernel_rfl) (by kernel_rfl) (fun _ _ _ h => Norm.panic h) (Or.inl ⟨by rfl, ?_⟩) (fun _ => rfl) (by assumption) ?_
    · intro w' hSw
      obtain ⟨t0, t1, t2, t3, t4, t5⟩ := hSw
      go_simp
    simp only [Act.put, List.setIfInBounds_toArray, List.set_cons_zero, List.set_cons_succ]
    refine anyInS_done (by kernel_rfl) ?_
    refine Norm.normal ?_
    clear hHU c0 c1 c2 c3
    gi_wp2
    exact ⟨_, results_none rfl _ _ _, ⟨_, rfl⟩, HF.out⟩
end Go.Proofs.YtdapnjnmhkdnpaaDoor.Fb

/-
  The iterator of words at a node: 1 part, a name.
-/
namespace Go.Proofs.YtdapnjnmhkdnpaaDoor.Fb
open Go Go.RowKit Go.Shelf Go.Proofs.YtdapnjnmhkdnpaaDoor.Fm Go.Proofs.YtdapnjnmhkdnpaaDoor.Lx Go.Proofs.YtdapnjnmhkdnpaaDoor.Ps Go.Proofs.YtdapnjnmhkdnpaaDoor.Ft
set_option linter.unusedVariables false
set_option linter.unusedSimpArgs false
attribute [local go_sem] Oper.semAt_some
set_option maxRecDepth 20000 in
set_option maxHeartbeats 8000000 in
theorem wo_Q (f : Fo) (k : Nat) (hk : f.op = (k : Int)) (hk3 : 3 ≤ k) (hk15 : k < 15) (hsl : f.sub.length = 1) (hn : f.n.size ≠ 0) (hIH : ∀ i (h : i < f.sub.length), WoAt f.sub[i]) : WoAt f := by
  intro B dn l n J Jx O W hJ hJx hnW hR h0 ⟨hB, hT, nB, nT, hO⟩
  have hsub : f.sub ≠ [] := fun h => by rw [h] at hsl; simp at hsl
  have hpw := words_list f k hk hsub
  rw [hpw] at hR ⊢
  clear hpw
  have hOW := hJ.lt h0
  have nY : ¬ O W.heap.size := fun h => by have := hOW _ h; omega
  have hb0 : Below W.heap.size W (W.alloc (.cells #[.func (.yield l) #[] #[]] 91)) := (Below.refl _ _).alloc (Nat.le_refl _) _
  have HBX := Lib.hid (hB.below hb0 hB.lt hB.dn)
  have HB0 := Lib.hid hb0
  have hcy : (W.alloc (.cells #[.func (.yield l) #[] #[]] 91)).cell? ⟨W.heap.size, 0, none⟩ = some (.func (.yield l) #[] #[]) := World.cell?_alloc_at _ _ _ _ rfl
  have hsg := (hT.2 k (by omega) (by omega)).1
  have hsz0 := hT.1
  obtain ⟨⟨v0, v1, v2, v3, c0, c1, c2, c3, hv⟩, hbl, hd⟩ := hB
  obtain ⟨rfl, _, rfl, _, hA, hS⟩ := hv
  obtain ⟨⟨a1, k1, rfl⟩, _⟩ := hA.form
  obtain ⟨⟨a2, k2, rfl⟩, _⟩ := hS.form
  rw [hsl] at c3
  rw [hk] at c0
  have hHeld : NdS B W.heap.size k (.int .u8 (k : Int)) (.string f.n) (.slice a1 f.args.length k1) (.slice a2 1 k2) l (W.alloc (.cells #[.func (.yield l) #[] #[]] 91)) :=
    ⟨(hb0.cell (p := ⟨B, 0, none⟩) hbl).trans c0, (hb0.cell (p := ⟨B, 1, none⟩) hbl).trans c1, (hb0.cell (p := ⟨B, 2, none⟩) hbl).trans c2, (hb0.cell (p := ⟨B, 3, none⟩) hbl).trans c3, hcy, (hb0.cell (p := ⟨0, _, none⟩) hsz0).trans hsg⟩
  have HL := Lib.hid hHeld
  have HT := Lib.hid hT
  have HSUB := Lib.hid hsl
  have HIH := Lib.hid hIH
  have HB := Lib.hid (show B < W.heap.size ∧ dn ≤ W.heap.size ∧ 0 < W.heap.size from ⟨hbl, hd, hsz0⟩)
  obtain ⟨nm, hnm⟩ : ∃ nm, f.n = nm := ⟨_, rfl⟩
  obtain ⟨al, hal⟩ : ∃ al, f.args.length = al := ⟨_, rfl⟩
  rw [hnm] at HL c1 hn hR ⊢
  obtain ⟨LL, hLL⟩ : ∃ LL, sgW k :: ((if nm.size = 0 then [] else [nm]) ++ f.sub.flatMap fun g => (pwB g).map bs) = LL := ⟨_, rfl⟩
  rw [hLL] at hR ⊢
  have HLL := Lib.hid hLL
  clear hLL
  rw [hal] at HL c2
  clear hA hS hsub hcy hb0 hHeld hT hIH hsl hsg
  refine callsIn_of_wp_marks Tryd.func52 rfl trivial ?_ rfl
  simp only [Tryd.ntmps52, List.size_toArray, List.length_cons, List.length_nil, Nat.reduceAdd, Nat.reduceSub, Array.replicate_succ, Array.replicate_zero, List.push_toArray, List.append_toArray, List.nil_append, List.cons_append]
  gi_wp2_with fail
  have hHeld := HL.out
  refine region_inS (NdS B W.heap.size k (.int .u8 (k : Int)) (.string nm) (.slice a1 al k1) (.slice a2 1 k2) l) 20 #[false, false, false, false, false, false, false, false, false, false, false, false, false, false, false, false, false, false, false, false] (by kernel_rfl) (by kernel_rfl) (by kernel_rfl) ⟨hHeld.c0, hHeld.c1, hHeld.c2, hHeld.c3, hHeld.y, hHeld.s⟩ (fun hHeld => ?_)
  refine anyInS_take (i := 0) (oi := ⟨some 14, _, _, _, _, _⟩) (v := .func (.yield l) #[] #[]) rfl rfl (by kernel_rfl) (by kernel_rfl) (by kernel_rfl) (fun _ _ _ h => Norm.panic h) (Or.inl ⟨by rfl, ?_⟩) (fun _ => rfl) (by assumption) ?_
  · intro w' hSw
    obtain ⟨t0, t1, t2, t3, t4, t5⟩ := hSw
    go_simp
  simp only [Act.put, List.setIfInBounds_toArray, List.set_cons_zero, List.set_cons_succ]
  refine anyInS_take (i := 1) (oi := ⟨some 15, _, _, _, _, _⟩) (v := .pointer (some ⟨B, 0, none⟩)) rfl rfl (by kernel_rfl) (by kernel_rfl) (by kernel_rfl) (fun _ _ _ h => Norm.panic h) (Or.inl ⟨by rfl, ?_⟩) (fun _ => rfl) (by assumption) ?_
  · intro w' hSw
    obtain ⟨t0, t1, t2, t3, t4, t5⟩ := hSw
    go_simp
  simp only [Act.put, List.setIfInBounds_toArray, List.set_cons_zero, List.set_cons_succ]
  refine anyInS_take (i := 2) (oi := ⟨some 16, _, _, _, _, _⟩) (v := .int .u8 (k : Int)) rfl rfl (by kernel_rfl) (by kernel_rfl) (by kernel_rfl) (fun _ _ _ h => Norm.panic h) (Or.inl ⟨by rfl, ?_⟩) (fun _ => rfl) (by assumption) ?_
  · intro w' hSw
    obtain ⟨t0, t1, t2, t3, t4, t5⟩ := hSw
    go_simp
  simp only [Act.put, List.setIfInBounds_toArray, List.set_cons_zero, List.set_cons_succ]
  refine anyInS_take (i := 3) (oi := ⟨some 17, _, _, _, _, _⟩) (v := .pointer (some ⟨0, k * 4, none⟩)) rfl rfl (by kernel_rfl) (by kernel_rfl) (by kernel_rfl) (fun _ _ _ h => Norm.panic h) (Or.inl ⟨by rfl, ?_⟩) (fun _ => rfl) (by assumption) ?_
  · intro w' hSw
    obtain ⟨t0, t1, t2, t3, t4, t5⟩ := hSw
    go_simp
    exact fun h => absurd h (by omega)
  simp only [Act.put, List.setIfInBounds_toArray, List.set_cons_zero, List.set_cons_succ]
  refine anyInS_take (i := 4) (oi := ⟨some 18, _, _, _, _, _⟩) (v := .pointer (some ⟨0, k * 4, none⟩)) rfl rfl (by kernel_rfl) (by kernel_rfl) (by kernel_rfl) (fun _ _ _ h => Norm.panic h) (Or.inl ⟨by rfl, ?_⟩) (fun _ => rfl) (by assumption) ?_
  · intro w' hSw
    obtain ⟨t0, t1, t2, t3, t4, t5⟩ := hSw
    go_simp
  simp only [Act.put, List.setIfInBounds_toArray, List.set_cons_zero, List.set_cons_succ]
  refine anyInS_take (i := 5) (oi := ⟨some 19, _, _, _, _, _⟩) (v := .string (sgT k)) rfl rfl (by kernel_rfl) (by kernel_rfl) (by kernel_rfl) (fun _ _ _ h => Norm.panic h) (Or.inl ⟨by rfl, ?_⟩) (fun _ => rfl) (by assumption) ?_
  · intro w' hSw
    obtain ⟨t0, t1, t2, t3, t4, t5⟩ := hSw
    go_simp
  simp only [Act.put, List.setIfInBounds_toArray, List.set_cons_zero, List.set_cons_succ]
  have hX : Below W.heap.size W (W.alloc (.cells #[.func (.yield l) #[] #[]] 91)).drew := HB0.out.drew
  have hBX2 := HBX.out.below (m := (W.alloc (.cells #[.func (.yield l) #[] #[]] 91)).heap.size) (Below.refl _ _).drew (by rw [World.size_alloc]; omega) (by rw [World.size_alloc]; omega)
  have hzX1 : W.heap.size + 1 = (W.alloc (.cells #[.func (.yield l) #[] #[]] 91)).drew.heap.size := by simp
  clear HL
  generalize hXX : (W.alloc (.cells #[.func (.yield l) #[] #[]] 91)).drew = X at *
  clear hXX HBX HB0
  have h0X : J 0 O X := hJ.keep h0 (hX.mono hnW) (fun b hb => hX.block b (hOW b hb))
  have hst : NdR f dn B W.heap.size l X O := ⟨hBX2, HT.out.below hX, hHeld.y, by omega, nB, nT, nY, hO, HB.out.1⟩
  have hgX : Grow O W X := Grow.of_below hX
  obtain ⟨fn, tmps, assign, body, hy, hRd⟩ := hR 0 _ O X #[.string (sgT k)] h0X (by rw [← HLL.out, sg_eq hk3 hk15]; rfl) rfl
  have HST := Lib.hid hst
  have HGX := Lib.hid hgX
  clear hst hgX hBX2
  refine anyInS_one (i := 6) (oi := ⟨some 20, _, _, _, _, _⟩) rfl (by kernel_rfl) (by rfl) (fun _ _ => trivial) (fun K hK => ?_)
  unfold Oper.wpIn
  refine ⟨fun _ _ => trivial, ?_⟩
  go_simp
  refine ⟨rfl, RoundIn.mono hRd ?_⟩
  clear hRd hy
  rintro e U ⟨O4, hs4, hg4, (⟨rfl, h4⟩ | ⟨rfl, h4⟩)⟩
  · have hHU := hHeld.grow hg4 HST.out.bl HST.out.yl HST.out.st.1 HST.out.nb HST.out.ny HST.out.nt
    have HST2 := Lib.hid (HST.out.yield hs4 hg4)
    have HG2 := Lib.hid (HGX.out.trans hg4 (Sub.refl _ _))
    have HS2 := Lib.hid (show Fm.Sub O W.heap.size O4 from (Sub.refl _ _).trans hs4 (by omega))
    have HJ4 := Lib.hid h4
    clear hs4 hg4 h4
    refine hK _ _ hHU ?_
    clear hK K hHeld
    simp only [Act.put, List.setIfInBounds_toArray, List.set_cons_zero, List.set_cons_succ]
    refine anyInS_take (i := 7) (oi := ⟨some 21, _, _, _, _, _⟩) (v := .bool false) rfl rfl (by kernel_rfl) (by kernel_rfl) (by kernel_rfl) (fun _ _ _ h => Norm.panic h) (Or.inl ⟨by rfl, ?_⟩) (fun _ => rfl) (by assumption) ?_
    · intro w' hSw
      obtain ⟨t0, t1, t2, t3, t4, t5⟩ := hSw
      go_simp
    simp only [Act.put, List.setIfInBounds_toArray, List.set_cons_zero, List.set_cons_succ]
    refine anyInS_take (i := 8) (oi := ⟨some 22, _, _, _, _, _⟩) (v := .bool false) rfl rfl (by kernel_rfl) (by kernel_rfl) (by kernel_rfl) (fun _ _ _ h => Norm.panic h) (Or.inl ⟨by rfl, ?_⟩) (fun _ => rfl) (by assumption) ?_
    · intro w' hSw
      obtain ⟨t0, t1, t2, t3, t4, t5⟩ := hSw
      go_simp
    simp only [Act.put, List.setIfInBounds_toArray, List.set_cons_zero, List.set_cons_succ]
    refine anyInS_take (i := 9) (oi := ⟨some 23, _, _, _, _, _⟩) (v := .pointer (some ⟨B, 1, none⟩)) rfl rfl (by kernel_rfl) (by kernel_rfl) (by kernel_rfl) (fun _ _ _ h => Norm.panic h) (Or.inl ⟨by rfl, ?_⟩) (fun _ => rfl) (by assumption) ?_
    · intro w' hSw
      obtain ⟨t0, t1, t2, t3, t4, t5⟩ := hSw
      go_simp
    simp only [Act.put, List.setIfInBounds_toArray, List.set_cons_zero, List.set_cons_succ]
    refine anyInS_take (i := 10) (oi := ⟨some 24, _, _, _, _, _⟩) (v := .string nm) rfl rfl (by kernel_rfl) (by kernel_rfl) (by kernel_rfl) (fun _ _ _ h => Norm.panic h) (Or.inl ⟨by rfl, ?_⟩) (fun _ => rfl) (by assumption) ?_
    · intro w' hSw
      obtain ⟨t0, t1, t2, t3, t4, t5⟩ := hSw
      go_simp
    simp only [Act.put, List.setIfInBounds_toArray, List.set_cons_zero, List.set_cons_succ]
    refine anyInS_take (i := 11) (oi := ⟨some 25, _, _, _, _, _⟩) (v := .bool true) rfl rfl (by kernel_rfl) (by kernel_rfl) (by kernel_rfl) (fun _ _ _ h => Norm.panic h) (Or.inl ⟨by rfl, ?_⟩) (fun _ => rfl) (by assumption) ?_
    · intro w' hSw
      obtain ⟨t0, t1, t2, t3, t4, t5⟩ := hSw
      go_simp
      exact name_nl hn
    simp only [Act.put, List.setIfInBounds_toArray, List.set_cons_zero, List.set_cons_succ]
    refine anyInS_take (i := 12) (oi := ⟨some 26, _, _, _, _, _⟩) (v := .bool true) rfl rfl (by kernel_rfl) (by kernel_rfl) (by kernel_rfl) (fun _ _ _ h => Norm.panic h) (Or.inl ⟨by rfl, ?_⟩) (fun _ => rfl) (by assumption) ?_
    · intro w' hSw
      obtain ⟨t0, t1, t2, t3, t4, t5⟩ := hSw
      go_simp
    simp only [Act.put, List.setIfInBounds_toArray, List.set_cons_zero, List.set_cons_succ]
    refine anyInS_take (i := 13) (oi := ⟨some 27, _, _, _, _, _⟩) (v := .func (.yield l) #[] #[]) rfl rfl (by kernel_rfl) (by kernel_rfl) (by kernel_rfl) (fun _ _ _ h => Norm.panic h) (Or.inl ⟨by rfl, ?_⟩) (fun _ => rfl) (by assumption) ?_
    · intro w' hSw
      obtain ⟨t0, t1, t2, t3, t4, t5⟩ := hSw
      go_simp
    simp only [Act.put, List.setIfInBounds_toArray, List.set_cons_zero, List.set_cons_succ]
    refine anyInS_take (i := 14) (oi := ⟨some 28, _, _, _, _, _⟩) (v := .pointer (some ⟨B, 1, none⟩)) rfl rfl (by kernel_rfl) (by kernel_rfl) (by kernel_rfl) (fun _ _ _ h => Norm.panic h) (Or.inl ⟨by rfl, ?_⟩) (fun _ => rfl) (by assumption) ?_
    · intro w' hSw
      obtain ⟨t0, t1, t2, t3, t4, t5⟩ := hSw
      go_simp
    simp only [Act.put, List.setIfInBounds_toArray, List.set_cons_zero, List.set_cons_succ]
    refine anyInS_take (i := 15) (oi := ⟨some 29, _, _, _, _, _⟩) (v := .string nm) rfl rfl (by kernel_rfl) (by kernel_rfl) (by kernel_rfl) (fun _ _ _ h => Norm.panic h) (Or.inl ⟨by rfl, ?_⟩) (fun _ => rfl) (by assumption) ?_
    · intro w' hSw
      obtain ⟨t0, t1, t2, t3, t4, t5⟩ := hSw
      go_simp
    simp only [Act.put, List.setIfInBounds_toArray, List.set_cons_zero, List.set_cons_succ]
    obtain ⟨fn, tmps, assign, body, hy, hRd⟩ := hR 1 nm O4 U #[.string nm] HJ4.out (by rw [← HLL.out, if_neg hn]; rfl) rfl
    refine anyInS_one (i := 16) (oi := ⟨some 30, _, _, _, _, _⟩) rfl (by kernel_rfl) (by rfl) (fun _ _ => trivial) (fun K hK => ?_)
    unfold Oper.wpIn
    refine ⟨fun _ _ => trivial, ?_⟩
    go_simp
    refine ⟨rfl, RoundIn.mono hRd ?_⟩
    clear hRd hy
    rintro e U2 ⟨O5, hs4, hg4, (⟨rfl, h4⟩ | ⟨rfl, h4⟩)⟩
    · have hH2 := hHU.grow hg4 HST2.out.bl HST2.out.yl HST2.out.st.1 HST2.out.nb HST2.out.ny HST2.out.nt
      have HST3 := Lib.hid (HST2.out.yield hs4 hg4)
      have HG3 := Lib.hid (HG2.out.trans hg4 HS2.out)
      have HS3 := Lib.hid (show Fm.Sub O W.heap.size O5 from HS2.out.trans hs4 (by have := HST2.out.yl; omega))
      have HJ5 := Lib.hid h4
      clear hs4 hg4 h4
      refine hK _ _ hH2 ?_
      clear hK K
      simp only [Act.put, List.setIfInBounds_toArray, List.set_cons_zero, List.set_cons_succ]
      refine anyInS_take (i := 17) (oi := ⟨some 31, _, _, _, _, _⟩) (v := .bool false) rfl rfl (by kernel_rfl) (by kernel_rfl) (by kernel_rfl) (fun _ _ _ h => Norm.panic h) (Or.inl ⟨by rfl, ?_⟩) (fun _ => rfl) (by assumption) ?_
      · intro w' hSw
        obtain ⟨t0, t1, t2, t3, t4, t5⟩ := hSw
        go_simp
      simp only [Act.put, List.setIfInBounds_toArray, List.set_cons_zero, List.set_cons_succ]
      refine anyInS_take (i := 18) (oi := ⟨some 32, _, _, _, _, _⟩) (v := .bool false) rfl rfl (by kernel_rfl) (by kernel_rfl) (by kernel_rfl) (fun _ _ _ h => Norm.panic h) (Or.inl ⟨by rfl, ?_⟩) (fun _ => rfl) (by assumption) ?_
      · intro w' hSw
        obtain ⟨t0, t1, t2, t3, t4, t5⟩ := hSw
        go_simp
      simp only [Act.put, List.setIfInBounds_toArray, List.set_cons_zero, List.set_cons_succ]
      refine anyInS_take (i := 19) (oi := ⟨some 33, _, _, _, _, _⟩) (v := .bool false) rfl rfl (by kernel_rfl) (by kernel_rfl) (by kernel_rfl) (fun _ _ _ h => Norm.panic h) (Or.inl ⟨by rfl, ?_⟩) (fun _ => rfl) (by assumption) ?_
      · intro w' hSw
        obtain ⟨t0, t1, t2, t3, t4, t5⟩ := hSw
        go_simp
      simp only [Act.put, List.setIfInBounds_toArray, List.set_cons_zero, List.set_cons_succ]
      refine anyInS_done (by kernel_rfl) ?_
      refine Norm.normal ?_
      have c3 := hH2.c3
      obtain ⟨M0, hM0⟩ : ∃ m, mAt f nm 0 = m := ⟨_, rfl⟩
      obtain ⟨M1, hM1⟩ : ∃ m, mAt f nm 1 = m := ⟨_, rfl⟩
      have HM0 := Lib.hid (show M0 = 2 by rw [← hM0, mAt_zero]; rw [if_neg hn])
      have HME := Lib.hid ((mAt_end HLL.out HSUB.out).symm.trans hM1)
      have hsi : 0 < f.sub.length := by rw [HSUB.out]; omega
      have hwo := HIH.out 0 hsi
      obtain ⟨⟨v0, v1, v2, v3, d0, d1, d2, d3, hv⟩, _, hd'⟩ := HST3.out.b
      obtain rfl : v3 = .slice a2 1 k2 := Option.some.inj (d3.symm.trans c3)
      obtain ⟨-, b0, o0, he2, hbn, x00, x01, x02, x03, e0, e1, e2, e3, hu⟩ := hv.sub.get hsi
      obtain rfl := he2
      obtain ⟨g0, hg0⟩ : ∃ g, f.sub[0] = g := ⟨_, rfl⟩
      rw [hg0] at hu hwo
      have HG0 := Lib.hid (show f.sub[0]? = some g0 from by rw [List.getElem?_eq_getElem hsi, hg0])
      obtain ⟨⟨a05, k05, rfl⟩, _⟩ := hu.args.form
      obtain ⟨⟨a06, k06, rfl⟩, _⟩ := hu.sub.form
      obtain rfl := hu.op
      obtain rfl := hu.nm
      simp only [Nat.zero_mul, Nat.one_mul, Nat.add_zero] at e0 e1 e2 e3
      have HU0 := Lib.hid (⟨hu, hwo, hbn, hd'⟩ : _ ∧ _ ∧ _ ∧ _)
      clear d0 d1 d2 d3 hv hd' hu hwo hg0 hsi hbn
      clear hHU hH2 c0 c1 c2 hHeld hX hzX1 h0X hn
      gi_wp2_with fail
      refine wpIn_loop_rounds 2 ?_
      rw [roundsIn_succ]
      gi_wp2_with fail
      have hbA0 : Below U2.heap.size U2 (U2.alloc (.cells #[.int .u8 g0.op, .string g0.n, .slice a05 g0.args.length k05, .slice a06 g0.sub.length k06] 25)) := (Below.refl _ _).alloc (Nat.le_refl _) _
      refine ⟨trivial, rfl, (words_in _ _ _ _ g0 dn _ (HU0.out.1.below hbA0 HU0.out.2.2.2) (by rw [World.size_alloc]; have := HU0.out.2.2.2; omega)).mono ?_⟩
      rintro e V0 ⟨rfl, hb1, hbox, hz1⟩
      rw [World.size_alloc] at hb1 hbox hz1
      rw [World.size_alloc]
      have hz0 : V0.heap.size ≤ U2.heap.size + 2 ∧ U2.heap.size + 2 ≤ V0.heap.size := by omega
      have hbw : Below U2.heap.size U2 V0 := hbA0.trans (hb1.mono (by omega))
      have hdU := HU0.out.2.2.2
      have hyU := HST3.out.yl
      have hsU := HST3.out.st.1
      have hltU := hJ.lt HJ5.out
      have hstV := HST3.out.below hbw hyU hdU hsU
      have HSTV0 := Lib.hid hstV
      have hjV := hJ.below HJ5.out hbw (by have := HB.out; omega)
      have HGV0 := Lib.hid (HG3.out.trans (Grow.of_below (O := O5) hbw) HS3.out)
      have HBV0 := Lib.hid (⟨hbox, hstV.st⟩ : _ ∧ _)
      have hmg := mAt_get HLL.out HG0.out
      have hms := mAt_succ (nm := nm) HG0.out
      rw [hM0] at hmg hms
      rw [hM1] at hms
      have HMG0 := Lib.hid hmg
      have HMS0 := Lib.hid hms
      have HC0 := Lib.hid ((hbw.cell (p := ⟨B, 3, none⟩) (by show B < _; omega)).trans c3)
      skip
      clear e0 e1 e2 e3 c3 hb1 hz1 hbA0 hbw hmg hms
      gi_wp2_with fail
      refine range_law (gf := 52) (lb := #[.pointer (some ⟨U2.heap.size + 1, 0, none⟩)]) rfl (enters_of Tryd.func52 (by kernel_rfl) rfl) (HU0.out.2.1 (U2.heap.size + 1) dn)
        (by rintro W x args rfl; rfl) (NJ f dn B W.heap.size l M0 J) (TJx Jx) O5 (NJ.fr hJ (by omega) (by omega) (by omega) (by omega)) (fun c => TJx.fr hJx (by omega) c)
        ⟨by rw [Nat.add_zero, HM0.out]; exact hjV, HSTV0.out⟩
        (fun O' W' hb' hs' => ⟨HBV0.out.1.below hb' (by omega) (by omega), HBV0.out.2.below hb' (Nat.le_refl _), fun h => (hs' _ h).elim (fun h => by have := hltU _ h; omega) fun h => by omega, fun h => (hs' _ h).elim HSTV0.out.nt fun h => by omega, fun b hb => (hs' b hb).elim (HSTV0.out.od b) fun h => by omega⟩)
        (fun i x args W2 a1 W3 => W3 = W2 ∧ ∃ u3 u4 u6 u8 u9 u10 u11 u12 u13 u14 u15 u16 u17 u18 u19 u20 u21 u22 u23 u24 u25 u26 u27 u28 u29 u30 u31 u32 u33 u34 u38 u39 u40 u41 u42 u44 u45 u46 u47 u48, a1 = { tmps := #[.func (.yield l) #[] #[], .pointer (some ⟨B, 0, none⟩), .pointer (some ⟨W.heap.size, 0, none⟩), u3, u4, .string x, u6, .slice (some ⟨b0, o0, none⟩) 1 k2, u8, u9, u10, u11, u12, u13, u14, u15, u16, u17, u18, u19, u20, u21, u22, u23, u24, u25, u26, u27, u28, u29, u30, u31, u32, u33, u34, .slice (some ⟨b0, o0, none⟩) 1 k2, .int .i64 1, .int .i64 0, u38, u39, u40, u41, u42, .string x, u44, u45, u46, u47, u48], defers := [] }) ?assign0 ?body0 ?done0 ?stop0
      case assign0 =>
        rintro l2 i x O2 W2 args hj hx rfl
        clear hj hjV hstV hbox
        gi_wp2
        exact ⟨Below.refl _ _, trivial, _, _, _, _, _, _, _, _, _, _, _, _, _, _, _, _, _, _, _, _, _, _, _, _, _, _, _, _, _, _, _, _, _, _, _, _, _, _, _, _, rfl⟩
      case body0 =>
        rintro l2 i x O2 W2 args _ _ W3 ⟨rfl, u3, u4, u6, u8, u9, u10, u11, u12, u13, u14, u15, u16, u17, u18, u19, u20, u21, u22, u23, u24, u25, u26, u27, u28, u29, u30, u31, u32, u33, u34, u38, u39, u40, u41, u42, u44, u45, u46, u47, u48, rfl⟩ hj hx hrep hbb hbl hz3 hne hl2 hl3 hol
        have hxl := HMG0.out i x hx
        obtain ⟨fn, tmps, assign, body, hy, hRd⟩ := hR (M0 + i) x O2 W3 #[.string x] hj.j hxl rfl
        have hj1 := hj.r.y
        have HJ := Lib.hid hj
        clear hj hx hxl hrep hbb hbl hne hjV hstV hbox
        gi_wp2_with fail
        refine ⟨rfl, RoundIn.mono hRd ?_⟩
        clear hRd hy
        rintro e W4 ⟨O5, hs4, hg4, (⟨rfl, h4⟩ | ⟨rfl, h4⟩)⟩
        · have HJ5 := Lib.hid (⟨h4, HJ.out.r.yield hs4 hg4⟩ : NJ f dn B W.heap.size l M0 J (i + 1) O5 W4)
          clear h4 hj1
          gi_wp2
          exact ⟨O5, hs4, hg4, HJ5.out⟩
        · clear hj1
          gi_wp2
          exact ⟨O5, hs4, hg4, rfl, h4⟩
      case stop0 =>
        rintro c O5 W5 ⟨rfl, hx⟩ hs5 nD5 hg5 hK5
        have hF := hJx.taken (k := 0) hx (D := V0.heap.size) (by omega) nD5 (.deferred none)
        have hG := (HGV0.out.trans hg5 HS3.out).taken (D := V0.heap.size) (by omega) (.deferred none)
        have hS : Fm.Sub O W.heap.size O5 := HS3.out.trans hs5 (by omega)
        clear hjV hstV hbox
        gi_wp2
        refine ⟨by simp, .inl ⟨_, _, rfl, run_takeDeferred hK5, ?_⟩⟩
        exact ⟨_, results_none rfl _ _ _, ⟨_, rfl⟩, O5, hS, hG, .inr hF⟩
      case done0 =>
        rintro O5 W5 hj hs5 nD5 hg5 hK5
        have hx := hj.j
        rw [HMS0.out] at hx
        rw [HME.out.symm] at hx
        have hF := hJ.taken hx (D := V0.heap.size) (by omega) nD5 (.deferred none)
        have hG := (HGV0.out.trans hg5 HS3.out).taken (D := V0.heap.size) (by omega) (.deferred none)
        have hS : Fm.Sub O W.heap.size O5 := HS3.out.trans hs5 (by omega)
        clear hjV hstV hbox hj hx
        gi_wp2_with fail
        rw [roundsIn_succ]
        gi_wp2
        refine ⟨by simp, .inl ⟨_, _, rfl, run_takeDeferred hK5, ?_⟩⟩
        exact ⟨_, results_none rfl _ _ _, ⟨_, rfl⟩, O5, hS, hG, .inl hF⟩
    · have hH2 := hHU.grow hg4 HST2.out.bl HST2.out.yl HST2.out.st.1 HST2.out.nb HST2.out.ny HST2.out.nt
      have HF := Lib.hid (show ∃ O', Fm.Sub O W.heap.size O' ∧ Grow O W U2 ∧ (J LL.length O' U2 ∨ Jx O' U2) from ⟨O5, HS2.out.trans hs4 (by have := HST2.out.yl; omega), HG2.out.trans hg4 HS2.out, .inr h4⟩)
      clear hs4 hg4 h4
      refine hK _ _ hH2 ?_
      clear hK K
      simp only [Act.put, List.setIfInBounds_toArray, List.set_cons_zero, List.set_cons_succ]
      refine anyInS_take (i := 17) (oi := ⟨some 31, _, _, _, _, _⟩) (v := .bool true) rfl rfl (by kernel_rfl) (by kernel_rfl) (by kernel_rfl) (fun _ _ _ h => Norm.panic h) (Or.inl ⟨by rfl, ?_⟩) (fun _ => rfl) (by assumption) ?_
      · intro w' hSw
        obtain ⟨t0, t1, t2, t3, t4, t5⟩ := hSw
        go_simp
      simp only [Act.put, List.setIfInBounds_toArray, List.set_cons_zero, List.set_cons_succ]
      refine anyInS_take (i := 18) (oi := ⟨some 32, _, _, _, _, _⟩) (v := .bool true) rfl rfl (by kernel_rfl) (by kernel_rfl) (by kernel_rfl) (fun _ _ _ h => Norm.panic h) (Or.inl ⟨by rfl, ?_⟩) (fun _ => rfl) (by assumption) ?_
      · intro w' hSw
        obtain ⟨t0, t1, t2, t3, t4, t5⟩ := hSw
        go_simp
      simp only [Act.put, List.setIfInBounds_toArray, List.set_cons_zero, List.set_cons_succ]
      refine anyInS_take (i := 19) (oi := ⟨some 33, _, _, _, _, _⟩) (v := .bool true) rfl rfl (by kernel_rfl) (by kernel_rfl) (by kernel_rfl) (fun _ _ _ h => Norm.panic h) (Or.inl ⟨by rfl, ?_⟩) (fun _ => rfl) (by assumption) ?_
      · intro w' hSw
        obtain ⟨t0, t1, t2, t3, t4, t5⟩ := hSw
        go_simp
      simp only [Act.put, List.setIfInBounds_toArray, List.set_cons_zero, List.set_cons_succ]
      refine anyInS_done (by kernel_rfl) ?_
      refine Norm.normal ?_
      clear hHU hH2 c0 c1 c2 c3
      gi_wp2
      exact ⟨_, results_none rfl _ _ _, ⟨_, rfl⟩, HF.out⟩
  · have hHU := hHeld.grow hg4 HST.out.bl HST.out.yl HST.out.st.1 HST.out.nb HST.out.ny HST.out.nt
    have HF := Lib.hid (show ∃ O', Fm.Sub O W.heap.size O' ∧ Grow O W U ∧ (J LL.length O' U ∨ Jx O' U) from ⟨O4, (Sub.refl _ _).trans hs4 (by omega), HGX.out.trans hg4 (Sub.refl _ _), .inr h4⟩)
    clear hs4 hg4 h4
    refine hK _ _ hHU ?_
    clear hK K hHeld
    simp only [Act.put, List.setIfInBounds_toArray, List.set_cons_zero, List.set_cons_succ]
    refine anyInS_take (i := 7) (oi := ⟨some 21, _, _, _, _, _⟩) (v := .bool true) rfl rfl (by kernel_rfl) (by kernel_rfl) (by kernel_rfl) (fun _ _ _ h => Norm.panic h) (Or.inl ⟨by rfl, ?_⟩) (fun _ => rfl) (by assumption) ?_
    · intro w' hSw
      obtain ⟨t0, t1, t2, t3, t4, t5⟩ := hSw
      go_simp
    simp only [Act.put, List.setIfInBounds_toArray, List.set_cons_zero, List.set_cons_succ]
    refine anyInS_take (i := 8) (oi := ⟨some 22, _, _, _, _, _⟩) (v := .bool true) rfl rfl (by kernel_rfl) (by kernel_rfl) (by kernel_rfl) (fun _ _ _ h => Norm.panic h) (Or.inl ⟨by rfl, ?_⟩) (fun _ => rfl) (by assumption) ?_
    · intro w' hSw
      obtain ⟨t0, t1, t2, t3, t4, t5⟩ := hSw
      go_simp
    simp only [Act.put, List.setIfInBounds_toArray, List.set_cons_zero, List.set_cons_succ]
    refine anyInS_take (i := 9) (oi := ⟨some 23, _, _, _, _, _⟩) (v := undef) rfl rfl (by kernel_rfl) (by kernel_rfl) (by kernel_rfl) (fun _ _ _ h => Norm.panic h) (Or.inr ⟨by rfl, rfl⟩) (fun _ => rfl) (by assumption) ?_
    simp only [Act.put, List.setIfInBounds_toArray, List.set_cons_zero, List.set_cons_succ]
    refine anyInS_take (i := 10) (oi := ⟨some 24, _, _, _, _, _⟩) (v := undef) rfl rfl (by kernel_rfl) (by kernel_rfl) (by kernel_rfl) (fun _ _ _ h => Norm.panic h) (Or.inr ⟨by rfl, rfl⟩) (fun _ => rfl) (by assumption) ?_
    simp only [Act.put, List.setIfInBounds_toArray, List.set_cons_zero, List.set_cons_succ]
    refine anyInS_take (i := 11) (oi := ⟨some 25, _, _, _, _, _⟩) (v := undef) rfl rfl (by kernel_rfl) (by kernel_rfl) (by kernel_rfl) (fun _ _ _ h => Norm.panic h) (Or.inr ⟨by rfl, rfl⟩) (fun _ => rfl) (by assumption) ?_
    simp only [Act.put, List.setIfInBounds_toArray, List.set_cons_zero, List.set_cons_succ]
    refine anyInS_take (i := 12) (oi := ⟨some 26, _, _, _, _, _⟩) (v := undef) rfl rfl (by kernel_rfl) (by kernel_rfl) (by kernel_rfl) (fun _ _ _ h => Norm.panic h) (Or.inr ⟨by rfl, rfl⟩) (fun _ => rfl) (by assumption) ?_
    simp only [Act.put, List.setIfInBounds_toArray, List.set_cons_zero, List.set_cons_succ]
    refine anyInS_take (i := 13) (oi := ⟨some 27, _, _, _, _, _⟩) (v := undef) rfl rfl (by kernel_rfl) (by kernel_rfl) (by kernel_rfl) (fun _ _ _ h => Norm.panic h) (Or.inr ⟨by rfl, rfl⟩) (fun _ => rfl) (by assumption) ?_
    simp only [Act.put, List.setIfInBounds_toArray, List.set_cons_zero, List.set_cons_succ]
    refine anyInS_take (i := 14) (oi := ⟨some 28, _, _, _, _, _⟩) (v := undef) rfl rfl (by kernel_rfl) (by kernel_rfl) (by kernel_rfl) (fun _ _ _ h => Norm.panic h) (Or.inr ⟨by rfl, rfl⟩) (fun _ => rfl) (by assumption) ?_
    simp only [Act.put, List.setIfInBounds_toArray, List.set_cons_zero, List.set_cons_succ]
    refine anyInS_take (i := 15) (oi := ⟨some 29, _, _, _, _, _⟩) (v := undef) rfl rfl (by kernel_rfl) (by kernel_rfl) (by kernel_rfl) (fun _ _ _ h => Norm.panic h) (Or.inr ⟨by rfl, rfl⟩) (fun _ => rfl) (by assumption) ?_
    simp only [Act.put, List.setIfInBounds_toArray, List.set_cons_zero, List.set_cons_succ]
    refine anyInS_take (i := 16) (oi := ⟨some 30, _, _, _, _, _⟩) (v := undef) rfl rfl (by kernel_rfl) (by kernel_rfl) (by kernel_rfl) (fun _ _ _ h => Norm.panic h) (Or.inr ⟨by rfl, rfl⟩) (fun _ => rfl) (by assumption) ?_
    simp only [Act.put, List.setIfInBounds_toArray, List.set_cons_zero, List.set_cons_succ]
    refine anyInS_take (i := 17) (oi := ⟨some 31, _, _, _, _, _⟩) (v := undef) rfl rfl (by kernel_rfl) (by kernel_rfl) (by kernel_rfl) (fun _ _ _ h => Norm.panic h) (Or.inr ⟨by rfl, rfl⟩) (fun _ => rfl) (by assumption) ?_
    simp only [Act.put, List.setIfInBounds_toArray, List.set_cons_zero, List.set_cons_succ]
    refine anyInS_take (i := 18) (oi := ⟨some 32, _, _, _, _, _⟩) (v := undef) rfl rfl (by kernel_rfl) (by kernel_rfl) (by kernel_rfl) (fun _ _ _ h => Norm.panic h) (Or.inr ⟨by rfl, rfl⟩) (fun _ => rfl) (by assumption) ?_
    simp only [Act.put, List.setIfInBounds_toArray, List.set_cons_zero, List.set_cons_succ]
    refine anyInS_take (i := 19) (oi := ⟨some 33, _, _, _, _, _⟩) (v := .bool true) rfl rfl (by kernel_rfl) (by kernel_rfl) (by kernel_rfl) (fun _ _ _ h => Norm.panic h) (Or.inl ⟨by rfl, ?_⟩) (fun _ => rfl) (by assumption) ?_
    · intro w' hSw
      obtain ⟨t0, t1, t2, t3, t4, t5⟩ := hSw
      go_simp
    simp only [Act.put, List.setIfInBounds_toArray, List.set_cons_zero, List.set_cons_succ]
    refine anyInS_done (by kernel_rfl) ?_
    refine Norm.normal ?_
    clear hHU c0 c1 c2 c3
    gi_wp2
    exact ⟨_, results_none rfl _ _ _, ⟨_, rfl⟩, HF.out⟩
end Go.Proofs.YtdapnjnmhkdnpaaDoor.Fb

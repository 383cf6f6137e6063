/-
  The contract of the statements' own CopyForms, given that of Copy: formulas appended one after the other, in memory of their own.
-/
import Derived.Test.YtnadjkofjgpabaaDoorFmCopyF
import Derived.Test.YtnadjkofjgpabaaDoorFmAppT
namespace Go.Proofs.YtnadjkofjgpabaaDoor.Fm
open Go Go.RowKit Go.Shelf
set_option linter.unusedVariables false
set_option linter.unusedSimpArgs false
/-- The cells of a row of formulas. -/
def RowF (D : Nat → Prop) (w : World) : List Value → List Fo → Prop
  | xs, [] => xs = []
  | xs, t :: r => ∃ v2 v3 ys, xs = .int .u8 t.op :: .string t.n :: v2 :: v3 :: ys ∧ (0 ≤ t.op ∧ t.op ≤ 255) ∧ okStr t.n ∧ SlTD D w v2 t.args ∧ SlFD D w v3 t.sub ∧ RowF D w ys r
theorem RowF.keep {D D' : Nat → Prop} {w w' : World} (hD : ∀ b, D b → ∀ q, w'.cell? ⟨b, q, none⟩ = w.cell? ⟨b, q, none⟩) (hm : ∀ b, D b → D' b) : ∀ {l : List Fo} {xs : List Value}, RowF D w xs l → RowF D' w' xs l
  | [], xs, h => h
  | t :: r, xs, ⟨v2, v3, ys, h1, h0, h2, h3, h4, h5⟩ => ⟨v2, v3, ys, h1, h0, h2, h3.keep hD hm, h4.keep hD hm, RowF.keep hD hm h5⟩
theorem RowF.snoc {D : Nat → Prop} {w : World} {t : Fo} {v2 v3 : Value} (h0 : 0 ≤ t.op ∧ t.op ≤ 255) (h2 : okStr t.n) (h3 : SlTD D w v2 t.args) (h4 : SlFD D w v3 t.sub) : ∀ {l : List Fo} {xs : List Value}, RowF D w xs l → RowF D w (xs ++ [.int .u8 t.op, .string t.n, v2, v3]) (l ++ [t])
  | [], xs, h => by
    have h : xs = [] := h
    subst h
    exact ⟨v2, v3, [], rfl, h0, h2, h3, h4, rfl⟩
  | u :: r, xs, ⟨u2, u3, ys, e1, e0, e2, e3, e4, e5⟩ => by
    subst e1
    exact ⟨u2, u3, _, rfl, e0, e2, e3, e4, RowF.snoc h0 h2 h3 h4 e5⟩
theorem RowF.fsD {D : Nat → Prop} {w : World} {g : Nat} : ∀ {l : List Fo} {xs : List Value} {o : Nat}, RowF D w xs l → (∀ j u, xs[j]? = some u → w.cell? ⟨g, o + j, none⟩ = some u) → FsD D w g o l
  | [], xs, o, h, hc => by simp [FsD]
  | .mk op n args sub :: r, xs, o, ⟨v2, v3, ys, e1, e0, e2, e3, e4, e5⟩, hc => by
    subst e1
    obtain ⟨a, cap, b', o', rfl, f2, f3, f4⟩ := e3
    obtain ⟨a2, cap2, b2, o2, rfl, g2, g3, g4⟩ := e4
    simp only [FsD]
    exact ⟨⟨hc 0 _ rfl, e0, hc 1 _ rfl, e2, ⟨a, cap, b', o', hc 2 _ rfl, f2, f3, f4⟩, a2, cap2, b2, o2, hc 3 _ rfl, g2, g3, g4⟩, RowF.fsD e5 fun j u hj => by rw [Nat.add_assoc, Nat.add_comm 4 j]; exact hc (j + 4) u (by simpa using hj)⟩
theorem new_four (w : World) (x y z v : Value) (t : TypeId) : ∀ j u, [x, y, z, v][j]? = some u → (w.alloc (.cells #[x, y, z, v] t)).cell? ((⟨w.heap.size, 0, none⟩ : Addr).add j) = some u := by
  intro j u h
  have e : (⟨w.heap.size, 0, none⟩ : Addr).add j = ⟨w.heap.size, j, none⟩ := by
    unfold Addr.add
    by_cases h0 : j = 0
    · rw [if_pos h0, h0]
    · rw [if_neg h0, Nat.zero_add]
  rw [e, World.cell?_alloc_at _ _ _ _ rfl, ← h]
  simp
def ApRelF (l : List Fo) (w : World) (v i : Value) (wr : World) : Prop := ∃ (q : Nat) (xs : List Value), i = .int .i64 (q : Int) ∧ q ≤ l.length ∧ Below w.heap.size w wr ∧
  wr.ownsRow w.heap.size 25 4 v q xs ∧ RowF (ApD w.heap.size wr v) wr xs (l.take q)
set_option maxHeartbeats 2000000 in
set_option maxRecDepth 20000 in
theorem ownLF_c (l : List Fo) (va : Value) (dn : Nat) (w : World) (ha : SlF dn w va l) (hd : dn ≤ w.heap.size)
    (hc : ∀ t ∈ l, ∀ (x0 x1 x2 x3 : Value) (W : World), FoV dn W x0 x1 x2 x3 t → dn ≤ W.heap.size → Calls Tryd.prog 11 #[.agg #[x0, x1, x2, x3]] W (CopF t W)) :
    Calls Tryd.prog 40 #[va] w (CopFs l w) := by
    obtain ⟨⟨sa, ka, rfl⟩, hla⟩ := ha.form
    have HC := Lib.hid hc
    clear hc
    go_enter Tryd.func40, Tryd.ntmps40
    go_wp2_with fail
    go_loopw [3, 4] (fun v i wr => ApRelF l w v i wr) (fun _ i _ => l.length - (intOf i).toNat)
    case atStart => exact ⟨0, [], rfl, Nat.zero_le _, Below.refl _ _, World.ownsRow_nil _ _ _ _, rfl⟩
    case round =>
      obtain ⟨q, xs, rfl, hq, hbq, hown, hrow⟩ := hrel
      have HROW := Lib.hid hrow
      clear hrow
      by_cases hlt : q < l.length
      · obtain ⟨_, b, o, rfl, hbn, u0, u1, u2, u3, c0, c1, c2, c3, hu⟩ := (ha.below (hbq.mono hd) (Nat.le_refl _)).get hlt
        have hdr : dn ≤ wr.heap.size := Nat.le_trans hd hbq.size
        have HU := Lib.hid hu
        have HCC := Lib.hid (fun W (h : Below wr.heap.size wr W) => (HC.out l[q] (List.getElem_mem hlt) u0 u1 u2 u3 W (HU.out.below (h.mono hdr) (Nat.le_refl _)) (Nat.le_trans hdr h.size)).mono
          fun e w1 (hh : CopF l[q] W e w1) => show ∃ a2 k2 a3 k3, e = .returned (.agg #[.int .u8 l[q].op, .string l[q].n, .slice a2 l[q].args.length k2, .slice a3 l[q].sub.length k3]) ∧ SlTD (fun b => wr.heap.size ≤ b ∧ b < w1.heap.size) w1 (.slice a2 l[q].args.length k2) l[q].args ∧ SlFD (fun b => wr.heap.size ≤ b ∧ b < w1.heap.size) w1 (.slice a3 l[q].sub.length k3) l[q].sub ∧ Below wr.heap.size wr w1 from by
            obtain ⟨a2, k2, a3, k3, h1, h2, h3, h4⟩ := hh
            exact ⟨a2, k2, a3, k3, h1, h2.keep (fun _ _ _ => rfl) (fun b hb => ⟨Nat.le_trans h.size hb.1, hb.2⟩), h3.keep (fun _ _ _ => rfl) (fun b hb => ⟨Nat.le_trans h.size hb.1, hb.2⟩), h.trans (h4.mono h.size)⟩)
        obtain ⟨⟨au, ku, hu2⟩, _⟩ := hu.args.form
        obtain ⟨⟨av, kv, hu3⟩, _⟩ := hu.sub.form
        have z0 := hu.op
        have z1 := hu.nm
        have HOK := Lib.hid hu.ok
        have HOP := Lib.hid hu.bd
        subst hu2 hu3 z0 z1
        clear hu HU
        have n0 : (0 : Int) ≤ (q : Int) := by omega
        have n1 : (q : Int) < (l.length : Int) := by omega
        have HLT := Lib.hid hown.lt
        have HRW := Lib.hid (fun W (h : Below wr.heap.size wr W) => own_below hown h)
        obtain ⟨i0, hi, hz0, hz1, hz2⟩ := info_parts infoF
        clear hown
        have HA := Lib.hid ha
        clear ha
        go_wp2_with fail
        refine (HCC.out _ (Below.refl _ _)).mono ?_
        rintro e w1 ⟨a2, k2, a3, k3, rfl, htd, hfd, hb1⟩
        have hbz := hbq.size
        have hsz1 := hb1.size
        have HTD := Lib.hid htd
        have HFD := Lib.hid hfd
        have hbw1 := hb1.mono hbq.size
        clear htd hfd HCC
        go_wp2_with ((at_builtin; refine wpList_append_lies _ (by rfl) _ _ 23 (by rfl) w.heap.size 25 i0 (.agg #[.int .u8 0, .string ByteArray.empty, .slice none 0 0, .slice none 0 0]) 4 72 Tryd.underlying23 hi hz0 hz1 hz2 rfl (by decide) _ q xs (by rfl) (HRW.out _ (Below.alloc hb1 hb1.size _)) ⟨w1.heap.size, 0, none⟩ 1 1 [.int .u8 l[q].op, .string l[q].n, .slice a2 l[q].args.length k2, .slice a3 l[q].sub.length k3] (by rfl) (by rfl) (new_four _ _ _ _ _ _) (by simp [Value.oneCell']) (by decide) (by unfold maxLen; omega) (by omega) (by simp; omega) (w1.heap.size + 1) (by simp) ?_))
        intro g cap w7 hown7 hgrow hat hlt7
        have hb7 : Below w.heap.size wr w7 := Below.grown (Below.alloc hbw1 (by omega) _) hgrow (by rw [World.size_alloc]; omega) (fun k hk => (HLT.out k hk).1)
        have hz7 := hgrow.size
        rw [World.size_alloc] at hz7
        have HC7 := Lib.hid (show ∀ b, b < w1.heap.size → Value.ownBlock _ ≠ some b → ∀ j, w7.cell? ⟨b, j, none⟩ = w1.cell? ⟨b, j, none⟩ from fun b hb hne j => by
          rw [World.cell?_of_block (hgrow.block b (by rw [World.size_alloc]; omega) (Ne.symm hne)), ((Below.refl w1.heap.size w1).alloc (Nat.le_refl _) _).cell (p := ⟨b, j, none⟩) hb])
        clear hgrow
        go_wp2_with fail
        refine ⟨⟨q + 1, _, by go_num, by omega, hbq.trans hb7, hown7, ?_⟩, by simp [intOf]; omega⟩
        rw [List.take_succ_eq_append_getElem hlt]
        have hn1 : ∀ b, wr.heap.size ≤ b → Value.ownBlock _ ≠ some b := fun b hb h => by have := (HLT.out _ h).2; omega
        have hn2 : ∀ b, b < w1.heap.size → (wr.heap.size ≤ b ∨ Value.ownBlock _ ≠ some b) → Value.ownBlock (.slice (some ⟨g, 0, none⟩) (q + 1) cap) ≠ some b := fun b hb hor h => by
          have h : g = b := by simpa [Value.ownBlock] using h
          subst h
          rcases hat with h | h
          · rcases hor with h2 | h2
            · exact hn1 g h2 h
            · exact h2 h
          · omega
        refine RowF.snoc HOP.out HOK.out (HTD.out.keep (fun b hb j => HC7.out b hb.2 (hn1 b hb.1) j) fun b hb => ⟨Nat.le_trans hbz hb.1, by have := hb.2; omega, hn2 b hb.2 (.inl hb.1)⟩)
          (HFD.out.keep (fun b hb j => HC7.out b hb.2 (hn1 b hb.1) j) fun b hb => ⟨Nat.le_trans hbz hb.1, by have := hb.2; omega, hn2 b hb.2 (.inl hb.1)⟩)
          (HROW.out.keep (fun b hb j => (HC7.out b (Nat.lt_of_lt_of_le hb.2.1 hsz1) hb.2.2 j).trans (hb1.cell (p := ⟨b, j, none⟩) hb.2.1)) fun b hb => ⟨hb.1, by have := hb.2.1; omega, hn2 b (Nat.lt_of_lt_of_le hb.2.1 hsz1) (.inr hb.2.2)⟩)
      · have e : q = l.length := by omega
        subst e
        have HR2 := Lib.hid (show RowF _ wr xs l by have := HROW.out; rwa [List.take_length] at this)
        go_wp2_with fail
        go_ret
        rcases own_cells hown with ⟨rfl, h0, rfl⟩ | ⟨g, cap, rfl, hob, hg1, hg2, hcells⟩
        · have hl : l = [] := List.eq_nil_of_length_eq_zero h0
          subst hl
          exact ⟨none, 0, rfl, ⟨none, 0, 0, 0, rfl, by simp, .inl rfl, by simp [FsD]⟩, hbq⟩
        · refine ⟨some ⟨g, 0, none⟩, cap, rfl, ⟨some ⟨g, 0, none⟩, cap, g, 0, rfl, hla, .inr ⟨rfl, hg1, hg2⟩, ?_⟩, hbq⟩
          exact RowF.fsD (HR2.out.keep (fun _ _ _ => rfl) fun b hb => ⟨hb.1, hb.2.1⟩) fun j u hj => by rw [Nat.zero_add]; exact hcells j u hj
end Go.Proofs.YtnadjkofjgpabaaDoor.Fm

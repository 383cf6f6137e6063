/-
  The contract of the statements' own CopyTerms: terms appended one after the other, in memory of their own.
-/
import Derived.Test.YtnadjkofjgpabaaDoorFmCopyT
import Derived.Maps.AppendAt
import Derived.Deep.AppendLies
import Derived.Deep.RegionHeld3
namespace Go.Proofs.YtnadjkofjgpabaaDoor.Fm
open Go Go.RowKit Go.Shelf
set_option linter.unusedVariables false
set_option linter.unusedSimpArgs false
/-- The cells of a row of terms. -/
def RowT (D : Nat → Prop) (w : World) : List Value → List Tm → Prop
  | xs, [] => xs = []
  | xs, t :: r => ∃ v2 ys, xs = .bool t.v :: .string t.n :: v2 :: ys ∧ okStr t.n ∧ SlTD D w v2 t.args ∧ RowT D w ys r
theorem RowT.keep {D D' : Nat → Prop} {w w' : World} (hD : ∀ b, D b → ∀ q, w'.cell? ⟨b, q, none⟩ = w.cell? ⟨b, q, none⟩) (hm : ∀ b, D b → D' b) : ∀ {l : List Tm} {xs : List Value}, RowT D w xs l → RowT D' w' xs l
  | [], xs, h => h
  | t :: r, xs, ⟨v2, ys, h1, h2, h3, h4⟩ => ⟨v2, ys, h1, h2, h3.keep hD hm, RowT.keep hD hm h4⟩
theorem RowT.snoc {D : Nat → Prop} {w : World} {t : Tm} {v2 : Value} (h2 : okStr t.n) (h3 : SlTD D w v2 t.args) : ∀ {l : List Tm} {xs : List Value}, RowT D w xs l → RowT D w (xs ++ [.bool t.v, .string t.n, v2]) (l ++ [t])
  | [], xs, h => by
    have h : xs = [] := h
    subst h
    exact ⟨v2, [], rfl, h2, h3, rfl⟩
  | u :: r, xs, ⟨u2, ys, e1, e2, e3, e4⟩ => by
    subst e1
    exact ⟨u2, _, rfl, e2, e3, RowT.snoc h2 h3 e4⟩
theorem RowT.tsD {D : Nat → Prop} {w : World} {g : Nat} : ∀ {l : List Tm} {xs : List Value} {o : Nat}, RowT D w xs l → (∀ j u, xs[j]? = some u → w.cell? ⟨g, o + j, none⟩ = some u) → TsD D w g o l
  | [], xs, o, h, hc => by simp [TsD]
  | .mk v n args :: r, xs, o, ⟨v2, ys, e1, e2, e3, e4⟩, hc => by
    subst e1
    obtain ⟨a, cap, b', o', rfl, f2, f3, f4⟩ := e3
    simp only [TsD]
    exact ⟨⟨hc 0 _ rfl, hc 1 _ rfl, e2, a, cap, b', o', hc 2 _ rfl, f2, f3, f4⟩, RowT.tsD e4 fun j u hj => by rw [Nat.add_assoc, Nat.add_comm 3 j]; exact hc (j + 3) u (by simpa using hj)⟩
theorem own_cells {w : World} {base n size : Nat} {e : TypeId} {v : Value} {xs : List Value} (h : w.ownsRow base e size v n xs) :
    (v = .slice none 0 0 ∧ n = 0 ∧ xs = []) ∨ ∃ g cap, v = .slice (some ⟨g, 0, none⟩) n cap ∧ v.ownBlock = some g ∧ base ≤ g ∧ g < w.heap.size ∧ ∀ j u, xs[j]? = some u → w.cell? ⟨g, j, none⟩ = some u := by
  rcases h.2 with ⟨rfl, rfl⟩ | ⟨g, cap, cur, rfl, hb, hg, _⟩
  · exact .inl ⟨rfl, rfl, by have := h.1; rw [Nat.zero_mul] at this; exact List.eq_nil_of_length_eq_zero this⟩
  · refine .inr ⟨g, cap, rfl, rfl, hb, ?_, fun j u hj => ?_⟩
    · exact (h.lt g rfl).2
    · have hl : j < n * size := by rw [← h.1]; exact (List.getElem?_eq_some_iff.1 hj).1
      rw [h.cellAt j hl]; exact hj
theorem own_below {w w' : World} {base n size : Nat} {e : TypeId} {v : Value} {xs : List Value} (h : w.ownsRow base e size v n xs) (hb : Below w.heap.size w w') : w'.ownsRow base e size v n xs := by
  refine ⟨h.1, ?_⟩
  have hlt := h.lt
  rcases h.2 with h0 | ⟨g, cap, cur, rfl, hb0, hg, h3⟩
  · exact .inl h0
  · exact .inr ⟨g, cap, cur, rfl, hb0, by rw [hb.block g (hlt g rfl).2]; exact hg, h3⟩
theorem new_three (w : World) (x y z : Value) (t : TypeId) : ∀ j u, [x, y, z][j]? = some u → (w.alloc (.cells #[x, y, z] t)).cell? ((⟨w.heap.size, 0, none⟩ : Addr).add j) = some u := by
  intro j u h
  have e : (⟨w.heap.size, 0, none⟩ : Addr).add j = ⟨w.heap.size, j, none⟩ := by
    unfold Addr.add
    by_cases h0 : j = 0
    · rw [if_pos h0, h0]
    · rw [if_neg h0, Nat.zero_add]
  rw [e, World.cell?_alloc_at _ _ _ _ rfl, ← h]
  simp
def ApD (B : Nat) (w : World) (v : Value) (b : Nat) : Prop := B ≤ b ∧ b < w.heap.size ∧ v.ownBlock ≠ some b
def ApRel (l : List Tm) (w : World) (v i : Value) (wr : World) : Prop := ∃ (q : Nat) (xs : List Value), i = .int .i64 (q : Int) ∧ q ≤ l.length ∧ Below w.heap.size w wr ∧
  wr.ownsRow w.heap.size 50 3 v q xs ∧ RowT (ApD w.heap.size wr v) wr xs (l.take q)
set_option maxHeartbeats 2000000 in
set_option maxRecDepth 20000 in
theorem ownT_c (N : Nat) : ∀ (l : List Tm), SizeOf.sizeOf l < N → ∀ (va : Value) (dn : Nat) (w : World), SlT dn w va l → dn ≤ w.heap.size →
    Calls Tryd.prog 39 #[va] w (CopTs l w) := by
  induction N with
  | zero => exact fun t h => absurd h (Nat.not_lt_zero _)
  | succ N ih =>
    intro l hN va dn w ha hd
    obtain ⟨⟨sa, ka, rfl⟩, hla⟩ := ha.form
    go_enter Tryd.func39, Tryd.ntmps39
    go_wp2_with fail
    go_loopw [3, 4] (fun v i wr => ApRel l w v i wr) (fun _ i _ => l.length - (intOf i).toNat)
    case atStart => exact ⟨0, [], rfl, Nat.zero_le _, Below.refl _ _, World.ownsRow_nil _ _ _ _, rfl⟩
    case round =>
      obtain ⟨q, xs, rfl, hq, hbq, hown, hrow⟩ := hrel
      have HROW := Lib.hid hrow
      clear hrow
      by_cases hlt : q < l.length
      · obtain ⟨_, b, o, rfl, hbn, u0, u1, u2, c0, c1, c2, hu⟩ := (ha.below (hbq.mono hd) (Nat.le_refl _)).get hlt
        have hdr : dn ≤ wr.heap.size := Nat.le_trans hd hbq.size
        have hsz : SizeOf.sizeOf l[q].args < N := by
          have h1 : SizeOf.sizeOf l[q] < SizeOf.sizeOf l := List.sizeOf_lt_of_mem (List.getElem_mem hlt)
          have h2 : SizeOf.sizeOf l[q].args < SizeOf.sizeOf l[q] := by obtain ⟨v, n, args⟩ := l[q]; simp [Tm.args]; omega
          omega
        have HUA := Lib.hid hu.args
        have HCC := Lib.hid (fun W (h : Below wr.heap.size wr W) => (ih l[q].args hsz u2 dn W (HUA.out.below (h.mono hdr) (Nat.le_refl _)) (Nat.le_trans hdr h.size)).mono
          fun e w1 (hh : CopTs l[q].args W e w1) => show ∃ a2 k2, e = .returned (.slice a2 l[q].args.length k2) ∧ SlTD (fun b => wr.heap.size ≤ b ∧ b < w1.heap.size) w1 (.slice a2 l[q].args.length k2) l[q].args ∧ Below wr.heap.size wr w1 from by
            obtain ⟨a2, k2, h1, h2, h3⟩ := hh
            exact ⟨a2, k2, h1, h2.keep (fun _ _ _ => rfl) (fun b hb => ⟨Nat.le_trans h.size hb.1, hb.2⟩), h.trans (h3.mono h.size)⟩)
        obtain ⟨⟨au, ku, hu2⟩, _⟩ := hu.args.form
        have z0 := hu.v
        have z1 := hu.nm
        have HOK := Lib.hid hu.ok
        subst hu2 z0 z1
        clear hu hsz HUA
        have n0 : (0 : Int) ≤ (q : Int) := by omega
        have n1 : (q : Int) < (l.length : Int) := by omega
        have HLT := Lib.hid hown.lt
        have HRW := Lib.hid (fun W (h : Below wr.heap.size wr W) => own_below hown h)
        obtain ⟨i0, hi, hz0, hz1, hz2⟩ := info_parts infoT
        clear hown ih
        have HA := Lib.hid ha
        clear ha
        go_wp2_with fail
        have HK := Lib.hid (show ∀ W, Below w.heap.size wr W → _ from fun W (h : Below w.heap.size wr W) => And.intro ((h.cell (p := ⟨b, o + q * 3, none⟩) (Nat.lt_of_lt_of_le hbn hd)).trans c0) (And.intro ((h.cell (p := ⟨b, o + q * 3 + 1, none⟩) (Nat.lt_of_lt_of_le hbn hd)).trans c1) (And.intro ((h.cell (p := ⟨b, o + q * 3 + 2, none⟩) (Nat.lt_of_lt_of_le hbn hd)).trans c2) h)))
        go_region_held3 (fun w' => w'.cell? ⟨b, o + q * 3, none⟩ = some (.bool l[q].v) ∧ w'.cell? ⟨b, o + q * 3 + 1, none⟩ = some (.string l[q].n) ∧ w'.cell? ⟨b, o + q * 3 + 2, none⟩ = some (.slice au l[q].args.length ku) ∧ Below w.heap.size wr w')
          ((refine HK.out _ ?_; first | assumption | exact Below.refl _ _ | exact Below.drew (Below.refl _ _) | exact Below.drew (by assumption) | exact Below.alloc (by assumption) (by omega) _))
          (first
            | (go_at_call 39; refine (HCC.out _ (by first | exact Below.refl _ _ | exact Below.drew (Below.refl _ _))).mono ?_; rintro e w1 ⟨a2, k2, rfl, htd, hb1⟩; have hbw1 := hb1.mono hbq.size; have hz1' : w.heap.size ≤ w1.heap.size := Nat.le_trans hbq.size hb1.size)
            | (refine step_append_lies _ (by rfl) _ _ 22 (by rfl) w.heap.size 50 i0 (.agg #[.bool false, .string ByteArray.empty, .slice none 0 0]) 3 48 Tryd.underlying22 hi hz0 hz1 hz2 rfl (by decide) _ q xs (by rfl) (HRW.out _ (Below.alloc hb1 hb1.size _)) ⟨w1.heap.size, 0, none⟩ 1 1 [.bool l[q].v, .string l[q].n, .slice a2 l[q].args.length k2] (by rfl) (by rfl) (new_three _ _ _ _ _) (by simp [Value.oneCell']) (by decide) (by unfold maxLen; omega) (by omega) (by simp; have := hbq.size; have := hb1.size; omega) (w1.heap.size + 1) (by simp) ?_; intro g cap w7 hown7 hgrow hat hlt7; have hb7 : Below w.heap.size wr w7 := Below.grown (Below.alloc hbw1 hz1' _) hgrow (by rw [World.size_alloc]; omega) (fun k hk => (HLT.out k hk).1)))
        have hbz := hbq.size
        have HTD := Lib.hid htd
        have hz7 := hgrow.size
        rw [World.size_alloc] at hz7
        have HC7 := Lib.hid (show ∀ b, b < w1.heap.size → Value.ownBlock _ ≠ some b → ∀ j, w7.cell? ⟨b, j, none⟩ = w1.cell? ⟨b, j, none⟩ from fun b hb hne j => by
          rw [World.cell?_of_block (hgrow.block b (by rw [World.size_alloc]; omega) (Ne.symm hne)), ((Below.refl w1.heap.size w1).alloc (Nat.le_refl _) _).cell (p := ⟨b, j, none⟩) hb])
        clear htd hgrow
        go_wp2_with fail
        refine ⟨⟨q + 1, _, by go_num, by omega, hbq.trans hb7, hown7, ?_⟩, by simp [intOf]; omega⟩
        rw [List.take_succ_eq_append_getElem hlt]
        have hsz1 := hb1.size
        have hn1 : ∀ b, wr.heap.size ≤ b → Value.ownBlock _ ≠ some b := fun b hb h => by have := (HLT.out _ h).2; omega
        have hn2 : ∀ b, b < w1.heap.size → (wr.heap.size ≤ b ∨ Value.ownBlock _ ≠ some b) → Value.ownBlock (.slice (some ⟨g, 0, none⟩) (q + 1) cap) ≠ some b := fun b hb hor h => by
          have h : g = b := by simpa [Value.ownBlock] using h
          subst h
          rcases hat with h | h
          · rcases hor with h2 | h2
            · exact hn1 g h2 h
            · exact h2 h
          · omega
        refine RowT.snoc HOK.out (HTD.out.keep (fun b hb j => HC7.out b hb.2 (hn1 b hb.1) j) fun b hb => ⟨Nat.le_trans hbz hb.1, by have := hb.2; omega, hn2 b hb.2 (.inl hb.1)⟩)
          (HROW.out.keep (fun b hb j => (HC7.out b (Nat.lt_of_lt_of_le hb.2.1 hsz1) hb.2.2 j).trans (hb1.cell (p := ⟨b, j, none⟩) hb.2.1)) fun b hb => ⟨hb.1, by have := hb.2.1; omega, hn2 b (Nat.lt_of_lt_of_le hb.2.1 hsz1) (.inr hb.2.2)⟩)
      · have e : q = l.length := by omega
        subst e
        have HR2 := Lib.hid (show RowT _ wr xs l by have := HROW.out; rwa [List.take_length] at this)
        go_wp2_with fail
        go_ret
        rcases own_cells hown with ⟨rfl, h0, rfl⟩ | ⟨g, cap, rfl, hob, hg1, hg2, hcells⟩
        · have hl : l = [] := List.eq_nil_of_length_eq_zero h0
          subst hl
          exact ⟨none, 0, rfl, ⟨none, 0, 0, 0, rfl, by simp, .inl rfl, by simp [TsD]⟩, hbq⟩
        · refine ⟨some ⟨g, 0, none⟩, cap, rfl, ⟨some ⟨g, 0, none⟩, cap, g, 0, rfl, hla, .inr ⟨rfl, hg1, hg2⟩, ?_⟩, hbq⟩
          exact RowT.tsD (HR2.out.keep (fun _ _ _ => rfl) fun b hb => ⟨hb.1, hb.2.1⟩) fun j u hj => by rw [Nat.zero_add]; exact hcells j u hj
end Go.Proofs.YtnadjkofjgpabaaDoor.Fm

/-
  The contract of At.
-/
import Derived.Test.YtnadjkofjgpabaaDoorFmCopyF
namespace Go.Proofs.YtnadjkofjgpabaaDoor.Fm
open Go Go.RowKit Go.Shelf
set_option linter.unusedVariables false
set_option linter.unusedSimpArgs false
theorem has_c (v0 v1 v2 v3 : Value) (f : Fo) (i : Int) (dn : Nat) (w : World) (hf : FoV dn w v0 v1 v2 v3 f) : Calls Tryd.prog 41 #[.agg #[v0, v1, v2, v3], .int .i64 i] w fun e w' => e = .returned (.bool (decide (0 ≤ i) && decide (i < (f.sub.length : Int)))) ∧ Below w.heap.size w w' := by
  obtain ⟨rfl, hop, rfl, _, ha, hs⟩ := hf
  obtain ⟨⟨sa, ka, rfl⟩, hla⟩ := ha.form
  obtain ⟨⟨sb, kb, rfl⟩, hlb⟩ := hs.form
  clear ha hs
  by_cases h1 : 0 ≤ i
  · go_enter Tryd.func41, Tryd.ntmps41
    go_wp2_with fail
    go_ret
    exact ⟨by simp [h1], (Below.refl _ _).alloc (Nat.le_refl _) _⟩
  · have d : decide (0 ≤ i) = false := decide_eq_false h1
    go_enter Tryd.func41, Tryd.ntmps41
    go_wp2_with fail
    go_ret
    exact ⟨by simp [d], (Below.refl _ _).alloc (Nat.le_refl _) _⟩
/-- The part at a place. -/
def atF : Fo → List Int → Option Fo
  | f, [] => some f
  | f, i :: r => if 0 ≤ i then (match f.sub[i.toNat]? with | some g => atF g r | none => none) else none
/-- A place as it lies in memory. -/
def PlV (n : Nat) (w : World) (v : Value) (is : List Int) : Prop :=
  ∃ a cap b o, v = .slice a is.length cap ∧ is.length ≤ 9223372036854775807 ∧ (is = [] ∨ (a = some ⟨b, o, none⟩ ∧ b < n)) ∧ ∀ q (h : q < is.length), w.cell? ⟨b, o + q, none⟩ = some (.int .i64 is[q])
theorem PlV.below {n m : Nat} {w w' : World} {v : Value} {is : List Int} (h : PlV n w v is) (hb : Below m w w') (hn : n ≤ m) : PlV n w' v is := by
  obtain ⟨a, cap, b, o, h1, h2, h3, h4⟩ := h
  refine ⟨a, cap, b, o, h1, h2, h3, fun q hq => ?_⟩
  have hb' := (h3.resolve_left (by rintro rfl; simp at hq)).2
  rw [hb.cell (p := ⟨b, o + q, none⟩) (show b < m by omega)]
  exact h4 q hq
/-- What At gives. -/
def AtP (r : Option Fo) (w : World) (e : Ending) (w' : World) : Prop :=
  match r with
  | none => e = .returned (.tuple #[.agg #[.int .u8 0, .string ByteArray.empty, .slice none 0 0, .slice none 0 0], .int .i64 6]) ∧ Below w.heap.size w w'
  | some t => ∃ a c a' c', e = .returned (.tuple #[.agg #[.int .u8 t.op, .string t.n, .slice a t.args.length c, .slice a' t.sub.length c'], .int .i64 0]) ∧ SlTD (fun b => w.heap.size ≤ b ∧ b < w'.heap.size) w' (.slice a t.args.length c) t.args ∧
      SlFD (fun b => w.heap.size ≤ b ∧ b < w'.heap.size) w' (.slice a' t.sub.length c') t.sub ∧ Below w.heap.size w w'
def AtRel (r : Option Fo) (is : List Int) (dn : Nat) (w : World) (i : Value) (wr : World) : Prop := ∃ (q : Nat) (g : Fo) (v0 v1 v2 v3 : Value), i = .int .i64 (q : Int) ∧ q ≤ is.length ∧ Below w.heap.size w wr ∧ w.heap.size + 1 < wr.heap.size ∧
  FoV dn wr v0 v1 v2 v3 g ∧ wr.cell? ⟨w.heap.size, 0, none⟩ = some v0 ∧ wr.cell? ⟨w.heap.size, 1, none⟩ = some v1 ∧ wr.cell? ⟨w.heap.size, 2, none⟩ = some v2 ∧ wr.cell? ⟨w.heap.size, 3, none⟩ = some v3 ∧
  (∀ j, wr.frozen? ⟨w.heap.size, j, none⟩ = false) ∧ (∀ j, wr.frozen? ⟨w.heap.size + 1, j, none⟩ = false) ∧
  (wr.cell? ⟨w.heap.size + 1, 0, none⟩ = some (.int .u8 0) ∧ wr.cell? ⟨w.heap.size + 1, 1, none⟩ = some (.string ByteArray.empty) ∧ wr.cell? ⟨w.heap.size + 1, 2, none⟩ = some (.slice none 0 0) ∧ wr.cell? ⟨w.heap.size + 1, 3, none⟩ = some (.slice none 0 0)) ∧ atF g (is.drop q) = r
set_option maxHeartbeats 1000000 in
theorem at_c (v0 v1 v2 v3 va : Value) (f : Fo) (is : List Int) (dn : Nat) (w : World) (hf : FoV dn w v0 v1 v2 v3 f) (hp : PlV dn w va is) (hd : dn ≤ w.heap.size) :
    Calls Tryd.prog 13 #[.agg #[v0, v1, v2, v3], va] w (AtP (atF f is) w) := by
  have hb0 : Below w.heap.size w ((w.alloc (.cells #[v0, v1, v2, v3] 25)).alloc (.cells #[.int .u8 0, .string ByteArray.empty, .slice none 0 0, .slice none 0 0] 25)) := ((Below.refl _ _).alloc (Nat.le_refl _) _).alloc (by simp) _
  have H2 := Lib.hid (two_boxesT w #[v0, v1, v2, v3] #[.int .u8 0, .string ByteArray.empty, .slice none 0 0, .slice none 0 0] 25)
  obtain ⟨r, hr⟩ : ∃ r, atF f is = r := ⟨_, rfl⟩
  rw [hr]
  have HR := Lib.hid hr
  have HF0 := Lib.hid (hf.below hb0 hd)
  obtain ⟨rfl, hop, rfl, _, ha, hs⟩ := hf
  obtain ⟨⟨sa, ka, rfl⟩, hla⟩ := ha.form
  obtain ⟨⟨sb, kb, rfl⟩, hlb⟩ := hs.form
  have HP := Lib.hid hp
  obtain ⟨sp, kp, pb, po, rfl, hpl, hp3, hp4⟩ := hp
  have HP3 := Lib.hid hp3
  have HP4 := Lib.hid hp4
  clear hr ha hs hp3 hp4
  go_enter Tryd.func13, Tryd.ntmps13
  go_wp2_with fail
  go_loopw [10] (fun i wr => AtRel r is dn w i wr) (fun i _ => is.length - (intOf i).toNat)
  case atStart =>
    obtain ⟨p1, p2, p3, p4⟩ := H2.out
    exact ⟨0, f, _, _, _, _, rfl, Nat.zero_le _, hb0, by simp, HF0.out, p1 0, p1 1, p1 2, p1 3, p3, p4, ⟨p2 0, p2 1, p2 2, p2 3⟩, by rw [List.drop_zero]; exact HR.out⟩
  case round =>
    clear hb0 H2
    obtain ⟨q, g, x0, x1, x2, x3, rfl, hq, hbq, hzq, hg, c0, c1, c2, c3, fF, fG, hG, hat⟩ := hrel
    have HAT := Lib.hid hat
    have HFF := Lib.hid fF
    have HFG := Lib.hid fG
    have HG := Lib.hid hG
    have HGV := Lib.hid hg
    have hdr : dn ≤ wr.heap.size := by omega
    obtain ⟨rfl, hgop, rfl, _, hga, hgs⟩ := hg
    obtain ⟨⟨ga, gk, rfl⟩, hgl⟩ := hga.form
    obtain ⟨⟨gb, gj, rfl⟩, hgm⟩ := hgs.form
    clear hat fF fG hG
    by_cases hlt : q < is.length
    · obtain ⟨rfl, hpb⟩ := HP3.out.resolve_left (by rintro rfl; simp at hlt)
      have hpc := HP4.out q hlt
      rw [← hbq.cell (p := ⟨pb, po + q, none⟩) (show pb < w.heap.size by omega)] at hpc
      have HD := Lib.hid (List.drop_eq_getElem_cons hlt)
      obtain ⟨i, hi⟩ : ∃ i, is[q] = i := ⟨_, rfl⟩
      rw [hi] at hpc HD
      clear hi
      have hh := has_c _ _ _ _ g i dn wr HGV.out
      have zF : ∀ j, wr.cell? ⟨w.heap.size, j, none⟩ = wr.cell? ⟨w.heap.size, j, none⟩ := fun _ => rfl
      by_cases hin : 0 ≤ i ∧ i < (g.sub.length : Int)
      · obtain ⟨k, rfl⟩ := Int.eq_ofNat_of_zero_le hin.1
        have hk : k < g.sub.length := by omega
        rw [decide_eq_true hin.1, decide_eq_true hin.2, Bool.true_and] at hh
        have HH := Lib.hid hh
        have hkI : (k : Int) < (g.sub.length : Int) := hin.2
        have HN := Lib.hid (show atF g.sub[k] (is.drop (q + 1)) = r by
          rw [← HAT.out, HD.out, atF, if_pos (by omega), Int.toNat_natCast, List.getElem?_eq_getElem hk])
        clear hh hin
        go_wp2_with fail
        refine HH.out.mono ?_
        rintro e w1 ⟨rfl, hb1⟩
        have e0 := (hb1.cell (p := ⟨w.heap.size, 0, none⟩) (show w.heap.size < wr.heap.size by omega)).trans c0
        have e1 := (hb1.cell (p := ⟨w.heap.size, 1, none⟩) (show w.heap.size < wr.heap.size by omega)).trans c1
        have e2 := (hb1.cell (p := ⟨w.heap.size, 2, none⟩) (show w.heap.size < wr.heap.size by omega)).trans c2
        have e3 := (hb1.cell (p := ⟨w.heap.size, 3, none⟩) (show w.heap.size < wr.heap.size by omega)).trans c3
        have fr : ∀ j, w1.frozen? ⟨w.heap.size, j, none⟩ = false := fun j => (hb1.frozen (p := ⟨w.heap.size, j, none⟩) (show w.heap.size < wr.heap.size by omega)).trans (HFF.out j)
        have fr0 := fr 0
        have fr1 := fr 1
        have fr2 := fr 2
        have fr3 := fr 3
        have HFR := Lib.hid fr
        have HGC : ∀ j, w1.cell? ⟨w.heap.size + 1, j, none⟩ = wr.cell? ⟨w.heap.size + 1, j, none⟩ := fun j => hb1.cell (p := ⟨w.heap.size + 1, j, none⟩) (show w.heap.size + 1 < wr.heap.size by omega)
        have HGC2 := Lib.hid HGC
        have HGF := Lib.hid (fun j => (hb1.frozen (p := ⟨w.heap.size + 1, j, none⟩) (show w.heap.size + 1 < wr.heap.size by omega)).trans (HFG.out j))
        obtain ⟨_, b, o, rfl, hbn, u0, u1, u2, u3, m0, m1, m2, m3, hu⟩ := (hgs.below hb1 hdr).get hk
        have hz1 := hb1.size
        have hbne : b ≠ w.heap.size := by omega
        have hfree : Free w1 w.heap.size 4 := ⟨by omega, fun j hj => ⟨by
          have : j = 0 ∨ j = 1 ∨ j = 2 ∨ j = 3 := by omega
          rcases this with rfl | rfl | rfl | rfl
          · rw [e0]; rfl
          · rw [e1]; rfl
          · rw [e2]; rfl
          · rw [e3]; rfl, HFR.out j⟩⟩
        have HU := Lib.hid hu
        obtain ⟨⟨ha', hk', hu2⟩, _⟩ := hu.args.form
        obtain ⟨⟨hb', hj', hu3⟩, _⟩ := hu.sub.form
        have z0 := hu.op
        have z1 := hu.nm
        subst hu2 hu3 z0 z1
        have HS4 := Lib.hid (set4 (i := 0) hfree (by omega) (.int .u8 g.sub[k].op) (.string g.sub[k].n) (.slice ha' g.sub[k].args.length hk') (.slice hb' g.sub[k].sub.length hj'))
        have HB1 := Lib.hid hb1
        clear hb1 fr HGC hu zF c0 c1 c2 c3 hga hgs hfree
        go_wp2_with fail
        refine ⟨⟨q + 1, g.sub[k], _, _, _, _, by go_num, by omega, (hbq.trans (HB1.out.mono (by omega))).trans HS4.out.2.1, by simp; omega, HU.out.below HS4.out.2.1 hd, HS4.out.2.2.2.2.1, HS4.out.2.2.2.2.2.1, HS4.out.2.2.2.2.2.2.1, HS4.out.2.2.2.2.2.2.2,
          fun j => by simp only [World.frozen?_setCell]; exact HFR.out j, fun j => by simp only [World.frozen?_setCell]; exact HGF.out j, ?_, HN.out⟩, by simp [intOf]; omega⟩
        have hx := fun j => (HS4.out.2.2.1 (w.heap.size + 1) (by omega) j).trans (HGC2.out j)
        exact ⟨(hx 0).trans HG.out.1, (hx 1).trans HG.out.2.1, (hx 2).trans HG.out.2.2.1, (hx 3).trans HG.out.2.2.2⟩
      · have hrn : r = none := by
          rw [← HAT.out, HD.out, atF]
          by_cases h0 : 0 ≤ i
          · rw [if_pos h0, List.getElem?_eq_none (by omega)]
          · rw [if_neg h0]
        subst hrn
        have hbf : (decide (0 ≤ i) && decide (i < (g.sub.length : Int))) = false := by
          cases h : (decide (0 ≤ i) && decide (i < (g.sub.length : Int)))
          · rfl
          · rw [Bool.and_eq_true] at h
            exact absurd ⟨of_decide_eq_true h.1, of_decide_eq_true h.2⟩ hin
        rw [hbf] at hh
        have HH := Lib.hid hh
        clear hh hin hbf
        go_wp2_with fail
        refine HH.out.mono ?_
        rintro e w1 ⟨rfl, hb1⟩
        have hz1 := hb1.size
        have g0 := (hb1.cell (p := ⟨w.heap.size + 1, 0, none⟩) (show w.heap.size + 1 < wr.heap.size by omega)).trans HG.out.1
        have g1 := (hb1.cell (p := ⟨w.heap.size + 1, 1, none⟩) (show w.heap.size + 1 < wr.heap.size by omega)).trans HG.out.2.1
        have g2 := (hb1.cell (p := ⟨w.heap.size + 1, 2, none⟩) (show w.heap.size + 1 < wr.heap.size by omega)).trans HG.out.2.2.1
        have g3 := (hb1.cell (p := ⟨w.heap.size + 1, 3, none⟩) (show w.heap.size + 1 < wr.heap.size by omega)).trans HG.out.2.2.2
        have fr : ∀ j, w1.frozen? ⟨w.heap.size + 1, j, none⟩ = false := fun j => (hb1.frozen (p := ⟨w.heap.size + 1, j, none⟩) (show w.heap.size + 1 < wr.heap.size by omega)).trans (HFG.out j)
        have fr0 := fr 0
        have fr1 := fr 1
        have fr2 := fr 2
        have fr3 := fr 3
        have hzz : w.heap.size + 1 < w1.heap.size := by omega
        have HB2 := Lib.hid (hbq.trans (hb1.mono (by omega)))
        clear fr hb1 c0 c1 c2 c3 hga hgs zF
        go_wp2_with fail
        refine bodyPost_ret (v := .tuple #[.agg #[.int .u8 0, .string ByteArray.empty, .slice none 0 0, .slice none 0 0], .int .i64 6]) (by simp [results, Tryd.results13, go_sem, g0, g1, g2, g3]; rfl) rfl ?_
        exact ⟨rfl, (((HB2.out.setCell (p := ⟨w.heap.size + 1, 0, none⟩) (Nat.le_succ _) _).setCell (p := ⟨w.heap.size + 1, 1, none⟩) (Nat.le_succ _) _).setCell (p := ⟨w.heap.size + 1, 2, none⟩) (Nat.le_succ _) _).setCell (p := ⟨w.heap.size + 1, 3, none⟩) (Nat.le_succ _) _⟩
    · have e : q = is.length := by omega
      have hrs : r = some g := by rw [← HAT.out, e, List.drop_length]; rfl
      subst hrs
      have HC := Lib.hid (copyF_c (SizeOf.sizeOf g + 1) g (Nat.lt_succ_self _) _ _ _ _ dn wr HGV.out hdr)
      clear e hga hgs
      go_wp2_with fail
      refine HC.out.mono ?_
      rintro e w1 ⟨a2, k2, a3, k3, rfl, htd, hfd, hb1⟩
      have hz1 := hb1.size
      have g0 := (hb1.cell (p := ⟨w.heap.size + 1, 0, none⟩) (show w.heap.size + 1 < wr.heap.size by omega)).trans HG.out.1
      have g1 := (hb1.cell (p := ⟨w.heap.size + 1, 1, none⟩) (show w.heap.size + 1 < wr.heap.size by omega)).trans HG.out.2.1
      have g2 := (hb1.cell (p := ⟨w.heap.size + 1, 2, none⟩) (show w.heap.size + 1 < wr.heap.size by omega)).trans HG.out.2.2.1
      have g3 := (hb1.cell (p := ⟨w.heap.size + 1, 3, none⟩) (show w.heap.size + 1 < wr.heap.size by omega)).trans HG.out.2.2.2
      have fr : ∀ j, w1.frozen? ⟨w.heap.size + 1, j, none⟩ = false := fun j => (hb1.frozen (p := ⟨w.heap.size + 1, j, none⟩) (show w.heap.size + 1 < wr.heap.size by omega)).trans (HFG.out j)
      have fr0 := fr 0
      have fr1 := fr 1
      have fr2 := fr 2
      have fr3 := fr 3
      have hzz : w.heap.size + 1 < w1.heap.size := by omega
      have HB2 := Lib.hid (hbq.trans (hb1.mono (by omega)))
      have HTD := Lib.hid htd
      have HFD := Lib.hid hfd
      clear fr hb1 c0 c1 c2 c3 htd hfd
      go_wp2_with fail
      refine bodyPost_ret (v := .tuple #[.agg #[.int .u8 g.op, .string g.n, .slice a2 g.args.length k2, .slice a3 g.sub.length k3], .int .i64 0]) (by simp [results, Tryd.results13, go_sem, g0, g1, g2, g3]) rfl ?_
      have hkeep : ∀ (b : Nat), w.heap.size + 2 ≤ b → ∀ j, ((((w1.setCell ⟨w.heap.size + 1, 0, none⟩ (.int .u8 g.op)).setCell ⟨w.heap.size + 1, 1, none⟩ (.string g.n)).setCell ⟨w.heap.size + 1, 2, none⟩ (.slice a2 g.args.length k2)).setCell ⟨w.heap.size + 1, 3, none⟩ (.slice a3 g.sub.length k3)).cell? ⟨b, j, none⟩ = w1.cell? ⟨b, j, none⟩ := by
        intro b hb j
        rw [World.cell?_of_block (Below.heap_setCell _ ⟨w.heap.size + 1, 3, none⟩ _ b (by show b ≠ w.heap.size + 1; omega)), World.cell?_of_block (Below.heap_setCell _ ⟨w.heap.size + 1, 2, none⟩ _ b (by show b ≠ w.heap.size + 1; omega)), World.cell?_of_block (Below.heap_setCell _ ⟨w.heap.size + 1, 1, none⟩ _ b (by show b ≠ w.heap.size + 1; omega)),
          World.cell?_of_block (Below.heap_setCell _ ⟨w.heap.size + 1, 0, none⟩ _ b (by show b ≠ w.heap.size + 1; omega))]
      refine ⟨a2, k2, a3, k3, rfl, HTD.out.keep (fun b hb j => hkeep b (by omega) j) (fun b hb => ⟨by omega, ?_⟩), HFD.out.keep (fun b hb j => hkeep b (by omega) j) (fun b hb => ⟨by omega, ?_⟩),
        (((HB2.out.setCell (p := ⟨w.heap.size + 1, 0, none⟩) (Nat.le_succ _) _).setCell (p := ⟨w.heap.size + 1, 1, none⟩) (Nat.le_succ _) _).setCell (p := ⟨w.heap.size + 1, 2, none⟩) (Nat.le_succ _) _).setCell (p := ⟨w.heap.size + 1, 3, none⟩) (Nat.le_succ _) _⟩
      · have := hb.2
        simp
        omega
      · have := hb.2
        simp
        omega
end Go.Proofs.YtnadjkofjgpabaaDoor.Fm

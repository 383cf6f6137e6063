/-
  Copy gives a formula whose parts lie apart: each part in blocks of its own, in their order, behind the block of the row that holds it.
-/
import Derived.Test.YtnadjkofjgpabaaDoorFmCopyF
namespace Go.Proofs.YtnadjkofjgpabaaDoor.Fm
open Go Go.RowKit Go.Shelf
set_option linter.unusedVariables false
set_option linter.unusedSimpArgs false
/-- A row of formulas at a block b, whose parts lie apart from one another in the blocks from lo to hi. -/
def FsI (w : World) (b o lo hi : Nat) : List Fo → Prop
  | [] => True
  | .mk op nm args sub :: r => ∃ m1 m2 va vs, (w.cell? ⟨b, o, none⟩ = some (.int .u8 op) ∧ (0 ≤ op ∧ op ≤ 255) ∧ w.cell? ⟨b, o + 1, none⟩ = some (.string nm) ∧ okStr nm ∧ w.cell? ⟨b, o + 2, none⟩ = some va ∧ w.cell? ⟨b, o + 3, none⟩ = some vs ∧
      (∀ j, o ≤ j → j < o + 4 → w.frozen? ⟨b, j, none⟩ = false)) ∧ SlTD (fun x => lo ≤ x ∧ x < m1) w va args ∧
      (∃ a cap R, vs = .slice a sub.length cap ∧ sub.length ≤ 1954687338268 ∧ (sub = [] ∨ (a = some ⟨R, 0, none⟩ ∧ m1 ≤ R ∧ R < m2)) ∧ FsI w R 0 (R + 1) m2 sub) ∧ lo ≤ m1 ∧ m1 ≤ m2 ∧ m2 ≤ hi ∧ FsI w b (o + 4) m2 hi r
def SlFI (w : World) (v : Value) (lo hi : Nat) (l : List Fo) : Prop :=
  ∃ a cap R, v = .slice a l.length cap ∧ l.length ≤ 1954687338268 ∧ (l = [] ∨ (a = some ⟨R, 0, none⟩ ∧ lo ≤ R ∧ R < hi)) ∧ FsI w R 0 (R + 1) hi l
theorem FsI.fsD {w : World} (l : List Fo) : ∀ {b o lo hi : Nat}, FsI w b o lo hi l → FsD (fun x => lo ≤ x ∧ x < hi) w b o l := by
  match l with
  | [] => exact fun _ => by simp [FsD]
  | .mk op nm args sub :: r =>
    intro b o lo hi h
    simp only [FsI] at h
    simp only [FsD]
    obtain ⟨m1, m2, va, vs, ⟨h0, hop, h1, h2, h3, h4, _⟩, ⟨a, cap, b', o', rfl, k1, k2, k3⟩, ⟨a2, cap2, R, rfl, k5, k6, k7⟩, e1, e2, e3, h5⟩ := h
    refine ⟨⟨h0, hop, h1, h2, ⟨a, cap, b', o', h3, k1, k2.imp id fun h => ⟨h.1, h.2.1, by omega⟩, ?_⟩, a2, cap2, R, 0, h4, k5, k6.imp id fun h => ⟨h.1, by omega, by omega⟩, ?_⟩, FsD.keep (fun _ _ _ => rfl) (fun x hx => ⟨by omega, hx.2⟩) r (fun _ _ _ => rfl) (FsI.fsD r h5)⟩
    · exact TsD.keep (fun _ _ _ => rfl) (fun x hx => ⟨hx.1, by omega⟩) args (fun _ _ _ => rfl) k3
    · rcases k6 with rfl | k6
      · simp [FsD]
      · exact FsD.keep (fun _ _ _ => rfl) (fun x hx => ⟨by omega, by omega⟩) sub (fun _ _ _ => rfl) (FsI.fsD sub k7)
termination_by SizeOf.sizeOf l
theorem SlFI.slFD {w : World} {v : Value} {lo hi : Nat} {l : List Fo} (h : SlFI w v lo hi l) : SlFD (fun x => lo ≤ x ∧ x < hi) w v l := by
  obtain ⟨a, cap, R, h1, h2, h3, h4⟩ := h
  refine ⟨a, cap, R, 0, h1, h2, h3.imp id fun h => ⟨h.1, h.2⟩, ?_⟩
  rcases h3 with rfl | h3
  · simp [FsD]
  · exact FsD.keep (fun _ _ _ => rfl) (fun x hx => ⟨by omega, hx.2⟩) l (fun _ _ _ => rfl) (FsI.fsD l h4)
/-- The same cells, and as free. -/
def SameAt (w w' : World) (x q : Nat) : Prop := w'.cell? ⟨x, q, none⟩ = w.cell? ⟨x, q, none⟩ ∧ w'.frozen? ⟨x, q, none⟩ = w.frozen? ⟨x, q, none⟩
theorem FsI.keep {w w' : World} (l : List Fo) : ∀ {b o lo hi hi' : Nat}, (∀ x, lo ≤ x → x < hi → ∀ q, SameAt w w' x q) → hi ≤ hi' → (∀ q, o ≤ q → q < o + l.length * 4 → SameAt w w' b q) → FsI w b o lo hi l → FsI w' b o lo hi' l := by
  match l with
  | [] => exact fun _ _ _ _ => by simp [FsI]
  | .mk op nm args sub :: r =>
    intro b o lo hi hi' hD hh hc h
    simp only [FsI] at h ⊢
    simp only [List.length_cons] at hc
    obtain ⟨m1, m2, va, vs, ⟨h0, hop, h1, h2, h3, h4, hfz⟩, hT, ⟨a2, cap2, R, rfl, k5, k6, k7⟩, e1, e2, e3, h5⟩ := h
    refine ⟨m1, m2, va, _, ⟨(hc o (by omega) (by omega)).1.trans h0, hop, (hc (o + 1) (by omega) (by omega)).1.trans h1, h2, (hc (o + 2) (by omega) (by omega)).1.trans h3, (hc (o + 3) (by omega) (by omega)).1.trans h4, fun j j1 j2 => (hc j j1 (by omega)).2.trans (hfz j j1 j2)⟩,
      hT.keep (fun x hx q => (hD x hx.1 (by omega) q).1) (fun x hx => hx), ⟨a2, cap2, R, rfl, k5, k6, ?_⟩, e1, e2, by omega, FsI.keep r (fun x h1 h2 => hD x (by omega) h2) hh (fun q h1 h2 => hc q (by omega) (by omega)) h5⟩
    rcases k6 with rfl | k6
    · simp [FsI]
    · exact FsI.keep sub (fun x h1 h2 => hD x (by omega) (by omega)) (Nat.le_refl _) (fun q _ _ => hD R (by omega) (by omega) q) k7
termination_by SizeOf.sizeOf l
theorem SlFI.keep {w w' : World} {v : Value} {lo hi hi' : Nat} {l : List Fo} (h : SlFI w v lo hi l) (hD : ∀ x, lo ≤ x → x < hi → ∀ q, SameAt w w' x q) (hh : hi ≤ hi') : SlFI w' v lo hi' l := by
  obtain ⟨a, cap, R, h1, h2, h3, h4⟩ := h
  refine ⟨a, cap, R, h1, h2, h3.imp id fun h => ⟨h.1, h.2.1, by omega⟩, ?_⟩
  rcases h3 with rfl | h3
  · simp [FsI]
  · exact FsI.keep l (fun x h1 h2 => hD x (by omega) h2) hh (fun q _ _ => hD R h3.2.1 h3.2.2 q) h4
theorem FsI.snoc {w : World} : ∀ (l : List Fo) (b o lo m m1 m2 hi : Nat) (t : Fo) (v2 v3 : Value), FsI w b o lo m l → lo ≤ m → m ≤ m1 → m1 ≤ m2 → m2 ≤ hi → w.cell? ⟨b, o + l.length * 4, none⟩ = some (.int .u8 t.op) → (0 ≤ t.op ∧ t.op ≤ 255) → w.cell? ⟨b, o + l.length * 4 + 1, none⟩ = some (.string t.n) → okStr t.n →
    w.cell? ⟨b, o + l.length * 4 + 2, none⟩ = some v2 → SlTD (fun x => m ≤ x ∧ x < m1) w v2 t.args → w.cell? ⟨b, o + l.length * 4 + 3, none⟩ = some v3 → SlFI w v3 m1 m2 t.sub → (∀ j, o + l.length * 4 ≤ j → j < o + l.length * 4 + 4 → w.frozen? ⟨b, j, none⟩ = false) → FsI w b o lo hi (l ++ [t])
  | [], b, o, lo, m, m1, m2, hi, .mk op n args sub, v2, v3, _, e1, e2, e3, e4, h0, hop, h1, h2, h3, h4, g3, ⟨a2, cap2, R, k1, k2, k3, k4⟩, hfz => by
    simp only [List.length_nil, Nat.zero_mul, Nat.add_zero] at h0 h1 h3 g3 hfz
    simp only [List.nil_append, FsI]
    exact ⟨m1, m2, v2, v3, ⟨h0, hop, h1, h2, h3, g3, hfz⟩, h4.keep (fun _ _ _ => rfl) (fun x hx => ⟨by omega, hx.2⟩), ⟨a2, cap2, R, k1, k2, k3, k4⟩, by omega, e3, e4, trivial⟩
  | .mk op n args sub :: r, b, o, lo, m, m1, m2, hi, t, v2, v3, h, e1, e2, e3, e4, h0, hop, h1, h2, h3, h4, g3, g4, hfz => by
    simp only [List.cons_append, FsI] at h ⊢
    simp only [List.length_cons] at h0 h1 h3 g3 hfz
    obtain ⟨p1, p2, va, vs, hc, hT, hF, f1, f2, f3, h5⟩ := h
    exact ⟨p1, p2, va, vs, hc, hT, hF, f1, f2, by omega, FsI.snoc r b (o + 4) p2 m m1 m2 hi t v2 v3 h5 f3 e2 e3 e4 (by rw [← h0]; congr 2; omega) hop (by rw [← h1]; congr 2; omega) h2 (by rw [← h3]; congr 2; omega) h4 (by rw [← g3]; congr 2; omega) g4 (fun j j1 j2 => hfz j (by omega) (by omega))⟩
def CopIs (l : List Fo) (w : World) (e : Ending) (w' : World) : Prop := ∃ a c, e = .returned (.slice a l.length c) ∧ SlFI w' (.slice a l.length c) w.heap.size w'.heap.size l ∧ Below w.heap.size w w'
def CopI (t : Fo) (w : World) (e : Ending) (w' : World) : Prop := ∃ a c a' c' m, e = .returned (.agg #[.int .u8 t.op, .string t.n, .slice a t.args.length c, .slice a' t.sub.length c']) ∧ SlTD (fun b => w.heap.size ≤ b ∧ b < m) w' (.slice a t.args.length c) t.args ∧
  SlFI w' (.slice a' t.sub.length c') m w'.heap.size t.sub ∧ w.heap.size ≤ m ∧ m ≤ w'.heap.size ∧ Below w.heap.size w w'
def CopRelI (l : List Fo) (R : Nat) (w : World) (i : Value) (wr : World) : Prop := ∃ q : Nat, i = .int .i64 (q : Int) ∧ q ≤ l.length ∧ Below R w wr ∧ Free wr R (l.length * 4) ∧ FsI wr R 0 (R + 1) wr.heap.size (l.take q)
theorem same_below {n : Nat} {w w' : World} (h : Below n w w') {x : Nat} (hx : x < n) (q : Nat) : SameAt w w' x q := ⟨h.cell (p := ⟨x, q, none⟩) hx, h.frozen (p := ⟨x, q, none⟩) hx⟩
theorem SameAt.trans {w w' w'' : World} {x q : Nat} (h : SameAt w w' x q) (h' : SameAt w' w'' x q) : SameAt w w'' x q := ⟨h'.1.trans h.1, h'.2.trans h.2⟩
theorem sameAt_set {w : World} {a : Addr} {v : Value} {x : Nat} (h : x ≠ a.block) (q : Nat) : SameAt w (w.setCell a v) x q := ⟨World.cell?_of_block (Below.heap_setCell _ a v x h), World.frozen?_setCell ..⟩
theorem sameAt_set' {w : World} {b i q : Nat} {v : Value} (h : q ≠ i) : SameAt w (w.setCell ⟨b, i, none⟩ v) b q := ⟨cell_set_other _ _ _ _ _ h, World.frozen?_setCell ..⟩
set_option maxHeartbeats 1000000 in
theorem copyLI_c (l : List Fo) (va : Value) (dn : Nat) (w : World) (ha : SlF dn w va l) (hd : dn ≤ w.heap.size)
    (hc : ∀ t ∈ l, ∀ (x0 x1 x2 x3 : Value) (W : World), FoV dn W x0 x1 x2 x3 t → dn ≤ W.heap.size → Calls Tryd.prog 42 #[.agg #[x0, x1, x2, x3]] W (CopI t W)) :
    Calls Tryd.prog 64 #[va, .func (.func 42) #[] #[]] w (CopIs l w) := by
  obtain ⟨⟨sa, ka, rfl⟩, hla⟩ := ha.form
  have HC := Lib.hid hc
  clear hc
  by_cases h0 : l.length = 0
  · have hl : l = [] := List.eq_nil_of_length_eq_zero h0
    subst hl
    clear h0
    go_enter Tryd.func64, Tryd.ntmps64
    go_wp2_with fail
    go_ret
    exact ⟨none, 0, rfl, ⟨none, 0, 0, rfl, by simp, .inl rfl, by simp [FsI]⟩, Below.refl _ _⟩
  · have hb0 : ((l.length : Int) == 0) = false := beq_eq_false_iff_ne.2 (by omega)
    have hmk := make_forms l.length hla
    have hfr := free_made w #[.int .u8 0, .string ByteArray.empty, .slice none 0 0, .slice none 0 0] (by simp) (l.length * 4) 25
    have hbm : Below w.heap.size w (w.alloc (.cells (zerF l.length) 25)) := (Below.refl _ _).alloc (Nat.le_refl _) _
    obtain ⟨R, hR⟩ : ∃ R, w.heap.size = R := ⟨_, rfl⟩
    have HRR := Lib.hid hR
    rw [hR] at hfr hbm hd
    go_enter Tryd.func64, Tryd.ntmps64
    go_wp2_with fail
    clear hb0 h0 hmk hR
    go_loopw [16] (fun i wr => CopRelI l R w i wr) (fun i _ => l.length - (intOf i).toNat)
    case atStart => exact ⟨0, rfl, Nat.zero_le _, hbm, hfr, by simp [FsI]⟩
    case round =>
      clear hbm hfr
      obtain ⟨q, rfl, hq, hbq, hfq, htq⟩ := hrel
      have HTQ := Lib.hid htq
      clear htq
      by_cases hlt : q < l.length
      · obtain ⟨_, b, o, rfl, hbn, u0, u1, u2, u3, c0, c1, c2, c3, hu⟩ := (ha.below (hbq.mono hd) (Nat.le_refl _)).get hlt
        have hzr := hfq.1
        obtain ⟨⟨au, ku, hu2⟩, _⟩ := hu.args.form
        obtain ⟨⟨av, kv, hu3⟩, _⟩ := hu.sub.form
        have z0 := hu.op
        have z1 := hu.nm
        have HOK := Lib.hid hu.ok
        have hop := hu.bd
        subst hu2 hu3 z0 z1
        have hb3 : Below wr.heap.size wr (wr.alloc (.cells #[.int .u8 l[q].op, .string l[q].n, .slice au l[q].args.length ku, .slice av l[q].sub.length kv] 25)) := (Below.refl _ _).alloc (Nat.le_refl _) _
        have hcc := Lib.hid (HC.out l[q] (List.getElem_mem hlt) _ _ _ _ _ (hu.below hb3 (by omega)) (by simp; omega))
        have hfx := hfq.below hb3
        clear hu
        go_wp2_with fail
        refine hcc.out.mono ?_
        clear hcc
        rintro e w1 ⟨a2, k2, a3, k3, m, rfl, htd, hfd, hm1, hm2, hb4⟩
        rw [World.size_alloc] at hm1
        have hf1 := hfx.below hb4
        have hs3 := set4 hf1 (show q * 4 + 3 < l.length * 4 by omega) (.int .u8 l[q].op) (.string l[q].n) (.slice a2 l[q].args.length k2) (.slice a3 l[q].sub.length k3)
        obtain ⟨e0, g0⟩ := hf1.2 (q * 4) (by omega)
        obtain ⟨e1, g1⟩ := hf1.2 (q * 4 + 1) (by omega)
        obtain ⟨e2, g2⟩ := hf1.2 (q * 4 + 2) (by omega)
        obtain ⟨y0, e0⟩ := Option.isSome_iff_exists.1 e0
        obtain ⟨y1, e1⟩ := Option.isSome_iff_exists.1 e1
        obtain ⟨y2, e2⟩ := Option.isSome_iff_exists.1 e2
        obtain ⟨e3, g3⟩ := hf1.2 (q * 4 + 3) (by omega)
        obtain ⟨y3, e3⟩ := Option.isSome_iff_exists.1 e3
        have HS3 := Lib.hid hs3
        have HTD := Lib.hid htd
        have HFD := Lib.hid hfd
        have hz4 := hb4.size
        rw [World.size_alloc] at hz4
        clear hs3 htd hfd
        have hz5 := HS3.out.2.1.size
        go_wp2_with fail
        refine ⟨⟨q + 1, by go_num, by omega, ((hbq.trans (hb3.mono (by omega))).trans (hb4.mono (by simp; omega))).trans HS3.out.2.1, HS3.out.1, ?_⟩, by simp [intOf]; omega⟩
        have hlen : (l.take q).length = q := by rw [List.length_take]; omega
        rw [List.take_succ_eq_append_getElem hlt]
        have hset : ∀ x, x ≠ R → ∀ j, SameAt w1 ((((w1.setCell ⟨R, q * 4, none⟩ (.int .u8 l[q].op)).setCell ⟨R, q * 4 + 1, none⟩ (.string l[q].n)).setCell ⟨R, q * 4 + 2, none⟩ (.slice a2 l[q].args.length k2)).setCell ⟨R, q * 4 + 3, none⟩ (.slice a3 l[q].sub.length k3)) x j := fun x hx j =>
          (((sameAt_set hx j).trans (sameAt_set hx j)).trans (sameAt_set hx j)).trans (sameAt_set hx j)
        have hsetR : ∀ j, (j < q * 4 ∨ q * 4 + 3 < j) → SameAt w1 ((((w1.setCell ⟨R, q * 4, none⟩ (.int .u8 l[q].op)).setCell ⟨R, q * 4 + 1, none⟩ (.string l[q].n)).setCell ⟨R, q * 4 + 2, none⟩ (.slice a2 l[q].args.length k2)).setCell ⟨R, q * 4 + 3, none⟩ (.slice a3 l[q].sub.length k3)) R j := fun j hj =>
          (((sameAt_set' (by omega)).trans (sameAt_set' (by omega))).trans (sameAt_set' (by omega))).trans (sameAt_set' (by omega))
        refine FsI.snoc (l.take q) R 0 (R + 1) wr.heap.size m w1.heap.size _ l[q] (.slice a2 l[q].args.length k2) (.slice a3 l[q].sub.length k3) (FsI.keep (l.take q) (fun x h1 h2 j => ((same_below hb3 h2 j).trans (same_below hb4 (by simp; omega) j)).trans (hset x (by omega) j)) (Nat.le_refl _) (fun j _ hj => ?_) HTQ.out) (by omega) (by omega) hm2 hz5 ?_ hop ?_ HOK.out ?_ (HTD.out.keep (fun b hb j => (hset b (by have := hb.1; simp at this; omega) j).1) fun b hb => ⟨by have := hb.1; simp at this; omega, hb.2⟩) ?_ (HFD.out.keep (fun b h1 h2 j => hset b (by omega) j) (Nat.le_refl _)) ?_
        · rw [hlen] at hj
          exact ((same_below hb3 (show R < _ by omega) j).trans (same_below hb4 (by simp; omega) j)).trans (hsetR j (by omega))
        · rw [hlen, Nat.zero_add]; exact HS3.out.2.2.2.2.1
        · rw [hlen, Nat.zero_add]; exact HS3.out.2.2.2.2.2.1
        · rw [hlen, Nat.zero_add]; exact HS3.out.2.2.2.2.2.2.1
        · rw [hlen, Nat.zero_add]; exact HS3.out.2.2.2.2.2.2.2
        · rw [hlen, Nat.zero_add]; exact fun j j1 j2 => (HS3.out.1.2 j (by omega)).2
      · have e : q = l.length := by omega
        have hT := Lib.hid (show FsI wr R 0 (R + 1) wr.heap.size l by
          have h := HTQ.out
          rwa [e, List.take_length] at h)
        have hRw := hfq.1
        clear e
        go_wp2_with fail
        go_ret
        exact ⟨some ⟨R, 0, none⟩, l.length, rfl, ⟨_, _, R, rfl, hla, .inr ⟨rfl, by have := HRR.out; omega, hRw⟩, hT.out⟩, by rw [HRR.out]; exact hbq⟩
set_option maxHeartbeats 1000000 in
theorem copyI_c (N : Nat) : ∀ (t : Fo), SizeOf.sizeOf t < N → ∀ (x0 x1 x2 x3 : Value) (dn : Nat) (w : World), FoV dn w x0 x1 x2 x3 t → dn ≤ w.heap.size → Calls Tryd.prog 42 #[.agg #[x0, x1, x2, x3]] w (CopI t w) := by
  induction N with
  | zero => exact fun t h => absurd h (Nat.not_lt_zero _)
  | succ N ih =>
    intro t hN x0 x1 x2 x3 dn w ht hd
    obtain ⟨rfl, hop, rfl, _, ha, hs⟩ := ht
    obtain ⟨⟨sa, ka, rfl⟩, hla⟩ := ha.form
    obtain ⟨⟨sb, kb, rfl⟩, hlb⟩ := hs.form
    have hb0 : Below w.heap.size w ((w.alloc (.cells #[.int .u8 t.op, .string t.n, .slice sa t.args.length ka, .slice sb t.sub.length kb] 25)).alloc (.cells #[.int .u8 0, .string ByteArray.empty, .slice none 0 0, .slice none 0 0] 25)) := ((Below.refl _ _).alloc (Nat.le_refl _) _).alloc (by simp) _
    have H2 := Lib.hid (two_boxesT w #[.int .u8 t.op, .string t.n, .slice sa t.args.length ka, .slice sb t.sub.length kb] #[.int .u8 0, .string ByteArray.empty, .slice none 0 0, .slice none 0 0] 25)
    have HL := Lib.hid (copyLT_c t.args _ dn _ (ha.below hb0 hd) (by simp; omega) fun t' ht' x0 x1 x2 W h1 h2 => copyT_c (SizeOf.sizeOf t' + 1) t' (Nat.lt_succ_self _) x0 x1 x2 dn W h1 h2)
    have HM := Lib.hid (fun W (h : Below w.heap.size w W) => copyLI_c t.sub _ dn W (hs.below h hd) (Nat.le_trans hd h.size) fun t' ht' x0 x1 x2 x3 W h1 h2 => by
      obtain ⟨q, hq, rfl⟩ := List.getElem_of_mem ht'
      exact ih _ (by have := size_sub t q hq; omega) x0 x1 x2 x3 dn W h1 h2)
    clear ha hs ih
    go_enter Tryd.func42, Tryd.ntmps42
    go_wp2_with fail
    refine HL.out.mono ?_
    rintro e w1 ⟨a2, k2, rfl, htd, hb⟩
    have hzw := hb.size
    simp only [World.size_alloc] at hb htd hzw
    obtain ⟨p1, p2, p3, p4⟩ := H2.out
    have hF : ∀ j, w1.cell? ⟨w.heap.size, j, none⟩ = _ := fun j => (hb.cell (p := ⟨w.heap.size, j, none⟩) (show w.heap.size < w.heap.size + 1 + 1 by omega)).trans (p1 j)
    have hG : ∀ j, w1.cell? ⟨w.heap.size + 1, j, none⟩ = _ := fun j => (hb.cell (p := ⟨w.heap.size + 1, j, none⟩) (show w.heap.size + 1 < w.heap.size + 1 + 1 by omega)).trans (p2 j)
    have fF : ∀ j, w1.frozen? ⟨w.heap.size, j, none⟩ = false := fun j => (hb.frozen (p := ⟨w.heap.size, j, none⟩) (show w.heap.size < w.heap.size + 1 + 1 by omega)).trans (p3 j)
    have fG : ∀ j, w1.frozen? ⟨w.heap.size + 1, j, none⟩ = false := fun j => (hb.frozen (p := ⟨w.heap.size + 1, j, none⟩) (show w.heap.size + 1 < w.heap.size + 1 + 1 by omega)).trans (p4 j)
    have HHF := Lib.hid hF
    have HHG := Lib.hid hG
    have HFF := Lib.hid fF
    have HFG := Lib.hid fG
    have c2 := hF 2
    have c3 := hF 3
    have f2 := fF 2
    simp only [List.getElem?_toArray, List.getElem?_cons_zero, List.getElem?_cons_succ] at c2 c3
    have HTD := Lib.hid htd
    have HB := Lib.hid ((hb0.trans (hb.mono (by omega))).setCell (p := ⟨w.heap.size, 2, none⟩) (Nat.le_refl _) (.slice a2 t.args.length k2))
    have HM2 := Lib.hid (HM.out _ HB.out)
    clear H2 p1 p2 p3 p4 htd hb HL hb0 hF hG fF fG HM
    go_wp2_with fail
    refine HM2.out.mono ?_
    rintro e w2 ⟨a3, k3, rfl, hfd, hb2⟩
    have hzw2 := hb2.size
    have hzs : (w1.setCell ⟨w.heap.size, 2, none⟩ (.slice a2 t.args.length k2)).heap.size = w1.heap.size := by simp
    rw [hzs] at hb2 hfd hzw2
    have hF2 : ∀ j, w2.cell? ⟨w.heap.size, j, none⟩ = (w1.setCell ⟨w.heap.size, 2, none⟩ (.slice a2 t.args.length k2)).cell? ⟨w.heap.size, j, none⟩ := fun j => hb2.cell (p := ⟨w.heap.size, j, none⟩) (show w.heap.size < w1.heap.size by omega)
    have hG2 : ∀ j, w2.cell? ⟨w.heap.size + 1, j, none⟩ = _ := fun j => (hb2.cell (p := ⟨w.heap.size + 1, j, none⟩) (show w.heap.size + 1 < w1.heap.size by omega)).trans ((World.cell?_of_block (Below.heap_setCell w1 ⟨w.heap.size, 2, none⟩ _ _ (by show w.heap.size + 1 ≠ w.heap.size; omega))).trans (HHG.out j))
    have fF2 : ∀ j, w2.frozen? ⟨w.heap.size, j, none⟩ = false := fun j => (hb2.frozen (p := ⟨w.heap.size, j, none⟩) (show w.heap.size < w1.heap.size by omega)).trans (by rw [World.frozen?_setCell]; exact HFF.out j)
    have fG2 : ∀ j, w2.frozen? ⟨w.heap.size + 1, j, none⟩ = false := fun j => (hb2.frozen (p := ⟨w.heap.size + 1, j, none⟩) (show w.heap.size + 1 < w1.heap.size by omega)).trans (by rw [World.frozen?_setCell]; exact HFG.out j)
    have x0 := (hF2 0).trans ((cell_set_other w1 w.heap.size 2 0 _ (by omega)).trans (HHF.out 0))
    have x1 := (hF2 1).trans ((cell_set_other w1 w.heap.size 2 1 _ (by omega)).trans (HHF.out 1))
    have x2 := (hF2 2).trans (World.cell?_setCell_same' w1 ⟨w.heap.size, 2, none⟩ (.slice a2 t.args.length k2) (by rw [c2]; rfl))
    have x3 := (hF2 3).trans ((cell_set_other w1 w.heap.size 2 3 _ (by omega)).trans (HHF.out 3))
    have d0 := hG2 0
    have d1 := hG2 1
    have d2 := hG2 2
    have d3 := hG2 3
    simp only [List.getElem?_toArray, List.getElem?_cons_zero, List.getElem?_cons_succ] at x0 x1 x3 d0 d1 d2 d3
    have f3 := fF2 3
    have h0 := fG2 0
    have h1 := fG2 1
    have h2 := fG2 2
    have h3 := fG2 3
    have hzF : w.heap.size + 1 < w2.heap.size := by omega
    have hzF2 : w.heap.size < w2.heap.size := by omega
    have HFD := Lib.hid hfd
    have HTD2 := Lib.hid (HTD.out.keep (w' := w2) (D' := fun b => w.heap.size + 2 ≤ b ∧ b < w1.heap.size) (fun b hb j => by rw [hb2.cell (p := ⟨b, j, none⟩) hb.2, World.cell?_of_block (Below.heap_setCell w1 ⟨w.heap.size, 2, none⟩ _ b (by show b ≠ w.heap.size; omega))]) fun b hb => ⟨by omega, by omega⟩)
    have HB2 := Lib.hid (HB.out.trans (hb2.mono (by omega)))
    clear c2 c3 f2 hF2 hG2 fF2 fG2 hfd HB HM2 hb2 hzs
    go_wp2_with fail
    refine bodyPost_ret (v := .agg #[.int .u8 t.op, .string t.n, .slice a2 t.args.length k2, .slice a3 t.sub.length k3]) (by simp [results, Tryd.results42, go_sem, d0, d1, d2, d3]) rfl ?_
    have hkeep : ∀ (b : Nat), w.heap.size + 2 ≤ b → ∀ j, SameAt w2 (((((w2.setCell ⟨w.heap.size, 3, none⟩ (.slice a3 t.sub.length k3)).setCell ⟨w.heap.size + 1, 0, none⟩ (.int .u8 t.op)).setCell ⟨w.heap.size + 1, 1, none⟩ (.string t.n)).setCell ⟨w.heap.size + 1, 2, none⟩ (.slice a2 t.args.length k2)).setCell ⟨w.heap.size + 1, 3, none⟩ (.slice a3 t.sub.length k3)) b j :=
      fun b hb j => ((((sameAt_set (by show b ≠ w.heap.size; omega) j).trans (sameAt_set (by show b ≠ w.heap.size + 1; omega) j)).trans (sameAt_set (by show b ≠ w.heap.size + 1; omega) j)).trans (sameAt_set (by show b ≠ w.heap.size + 1; omega) j)).trans (sameAt_set (by show b ≠ w.heap.size + 1; omega) j)
    refine ⟨a2, k2, a3, k3, w1.heap.size, rfl, HTD2.out.keep (fun b hb j => (hkeep b hb.1 j).1) (fun b hb => ⟨by omega, hb.2⟩), HFD.out.keep (fun b h1 h2 j => hkeep b (by omega) j) (by simp), by omega, by simp; omega,
      ((((HB2.out.setCell (p := ⟨w.heap.size, 3, none⟩) (Nat.le_refl _) _).setCell (p := ⟨w.heap.size + 1, 0, none⟩) (Nat.le_succ _) _).setCell (p := ⟨w.heap.size + 1, 1, none⟩) (Nat.le_succ _) _).setCell (p := ⟨w.heap.size + 1, 2, none⟩) (Nat.le_succ _) _).setCell (p := ⟨w.heap.size + 1, 3, none⟩) (Nat.le_succ _) _⟩
end Go.Proofs.YtnadjkofjgpabaaDoor.Fm

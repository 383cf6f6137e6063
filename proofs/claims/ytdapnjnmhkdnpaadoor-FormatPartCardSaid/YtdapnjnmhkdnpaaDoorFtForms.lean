/-
  The contracts of Forms and of Form.
-/
import Derived.Test.YtdapnjnmhkdnpaaDoorFtFullC
import Derived.Test.YtdapnjnmhkdnpaaDoorFtJoinF
import Derived.Test.YtdapnjnmhkdnpaaDoorFtIter
import Derived.Test.YtdapnjnmhkdnpaaDoorFmMono
namespace Go.Proofs.YtdapnjnmhkdnpaaDoor.Fb
open Go Go.RowKit Go.Shelf Go.Proofs.YtdapnjnmhkdnpaaDoor.Fm Go.Proofs.YtdapnjnmhkdnpaaDoor.Lx Go.Proofs.YtdapnjnmhkdnpaaDoor.Ps Go.Proofs.YtdapnjnmhkdnpaaDoor.Ft
set_option linter.unusedVariables false
set_option linter.unusedSimpArgs false
def fsB (fs : List Fo) : Bs := jn [44, 32] (fs.map (foB brN))
theorem slF_grow {dn : Nat} {O : Nat → Prop} {W W' : World} {va : Value} {a : List Fo} (h : SlF dn W va a) (hg : Grow O W W') (hO : ∀ q, O q → dn ≤ q) (hd : dn ≤ W.heap.size) : SlF dn W' va a := h.below (hg.below hd hO) (Nat.le_refl _)
theorem any_all (fs : List Fo) : (fs.any fun f => !rightB true f) = !(fs.all fun f => rightB true f) := by
  induction fs with
  | nil => rfl
  | cons a r ih => rw [List.any_cons, List.all_cons, ih, Bool.not_and]
set_option maxHeartbeats 4000000 in
set_option maxRecDepth 20000 in
theorem forms_c (fs : List Fo) (va : Value) (dn : Nat) (w : World) (hs : SlF dn w va fs) (hd : dn ≤ w.heap.size) (hT : RTab w) (hS : STab w) (hop : ∀ f ∈ fs, OpsOk f) (hlen : (fs.all fun f => rightB true f) = true → (fsB fs).length ≤ 1000000) :
    Calls Tryd.prog 18 #[va] w fun e w' => e = .returned (TxtR (fs.all fun f => rightB true f) (fsB fs)) ∧ Below w.heap.size w w' := by
  have hc := contains_c fs va dn w hs hd hT
  rw [any_all] at hc
  have HC := Lib.hid hc
  have HS := Lib.hid hs
  have HST := Lib.hid hS
  have HOP := Lib.hid hop
  have HLEN := Lib.hid hlen
  obtain ⟨⟨sa, cap, rfl⟩, _⟩ := hs.form
  obtain ⟨R, hR⟩ : ∃ R, TxtR (fs.all fun f => rightB true f) (fsB fs) = R := ⟨_, rfl⟩
  rw [hR]
  have HR := Lib.hid hR
  clear hc hs hS hop hlen hR hT
  go_enter Tryd.func18, Tryd.ntmps18
  go_wp2_with fail
  refine HC.out.mono ?_
  rintro e w1 ⟨rfl, hb1⟩
  have hz1 := hb1.size
  have HB1 := Lib.hid hb1
  clear hb1 HC
  by_cases hr : (fs.all fun f => rightB true f) = true
  rotate_left
  · have hr : (fs.all fun f => rightB true f) = false := by simpa using hr
    have hRR := HR.out
    rw [hr, TxtR_er] at hRR
    rw [hr]
    have HRR := Lib.hid hRR
    clear hr hRR HR
    go_wp2_with fail
    (try simp only [Exit.inBlock, Exit.then])
    refine bodyPost_ret (v := .tuple #[.string ⟨#[]⟩, .int .i64 2]) (by simp [results, Tryd.results18, go_sem]) rfl ?_
    exact ⟨by rw [← HRR.out], HB1.out⟩
  · have hRR := HR.out
    rw [hr, TxtR_ok] at hRR
    rw [hr]
    have HRR := Lib.hid hRR
    have HRT := Lib.hid hr
    clear hr hRR HR
    go_wp2_with fail
    have hbd := bd_new w1
    have hbv : Below w1.heap.size w1 (w1.alloc (.cells #[.pointer none, .slice none 0 0] 53)) := (Below.refl _ _).alloc (Nat.le_refl _) _
    have hzV : (w1.alloc (.cells #[.pointer none, .slice none 0 0] 53)).heap.size = w1.heap.size + 1 := by simp
    obtain ⟨V, hV⟩ : ∃ V, w1.alloc (.cells #[.pointer none, .slice none 0 0] 53) = V := ⟨_, rfl⟩
    rw [hV] at hbd hbv hzV ⊢
    clear hV
    have HBD := Lib.hid hbd
    have HBV := Lib.hid hbv
    have HZV := Lib.hid hzV
    clear hbd hbv hzV
    refine (callsIn_wide.1 (valuesF_in sa fs.length cap V)).mono ?_
    rintro e X ⟨rfl, hX⟩
    have hbX : Below V.heap.size V X := by rw [hX]; exact (Below.refl _ _).alloc (Nat.le_refl _) _
    have hzX : X.heap.size = V.heap.size + 1 := by rw [hX]; simp
    have cX : X.cell? ⟨V.heap.size, 0, none⟩ = some (.slice sa fs.length cap) := by rw [hX]; exact World.cell?_alloc_at _ _ _ _ rfl
    have hsX : STab X := ((HST.out.keep (HB1.out.block _ HST.out.1) HB1.out.size).keep (HBV.out.block _ (Nat.lt_of_lt_of_le HST.out.1 HB1.out.size)) HBV.out.size).keep (hbX.block _ (by have := HST.out.1; have := HB1.out.size; have := HBV.out.size; omega)) hbX.size
    have htx := Lib.hid (texts_c w1.heap.size 41 X hsX)
    have HX := Lib.hid (⟨hbX, hzX, cX⟩ : _ ∧ _ ∧ _)
    clear hX hbX hzX cX hsX
    go_wp2_with fail
    refine htx.out.mono ?_
    rintro e U ⟨rfl, hbU, hTx, hzU⟩
    have HU := Lib.hid (⟨hbU, hTx, hzU⟩ : _ ∧ _ ∧ _)
    clear htx hbU hTx hzU
    simp only [wrF]
    go_wp2_with fail
    obtain ⟨hbU, hTx, hzU⟩ := HU.out
    obtain ⟨hbX, hzX, cX⟩ := HX.out
    have hzV := HZV.out
    have hbVU : Below V.heap.size V U := hbX.trans (hbU.mono hbX.size)
    have hbwU : Below w1.heap.size w1 U := HBV.out.trans (hbVU.mono HBV.out.size)
    have hbdU : Bw U w1.heap.size w1.heap.size (.slice none 0 0) [] := HBD.out.below hbVU (Nat.le_refl _)
    have hslU : SlF dn U (.slice sa fs.length cap) fs := (HS.out.below HB1.out hd).below hbwU (by omega)
    have hcU : U.cell? ⟨V.heap.size, 0, none⟩ = some (.slice sa fs.length cap) := (hbU.cell (p := ⟨V.heap.size, 0, none⟩) (by show V.heap.size < _; omega)).trans cX
    have hG : ∀ q, G0 w1.heap.size (.slice none 0 0) U.heap.size q → q = w1.heap.size ∨ U.heap.size ≤ q := fun q hq => hq.imp (fun h => (ob_nil _ _).1 h) (fun h => h)
    have hGd : ∀ q, G0 w1.heap.size (.slice none 0 0) U.heap.size q → dn ≤ q := fun q hq => (hG q hq).elim (fun h => by omega) fun h => by omega
    have hsig : 0 < w.heap.size := HST.out.1
    have hall : ∀ f ∈ fs, FoK true 1 f := fun f hf => fok_right (List.all_eq_true.1 HRT.out f hf) (HOP.out f hf)
    have hjoin := joinF_in U.heap.size U rfl w1.heap.size w1.heap.size (.slice none 0 0) [] hbdU (by omega) 60 #[.pointer (some ⟨V.heap.size, 0, none⟩)] (enters_of Tryd.func60 (by kernel_rfl) rfl)
      (RepVF dn) fs _ (valuesF_iter fs V.heap.size dn (.slice sa fs.length cap)) (by
        rintro W x args ⟨_, _, _, _, rfl, hx⟩
        obtain ⟨⟨a2, k2, e2⟩, _⟩ := hx.args.form
        obtain ⟨⟨a3, k3, e3⟩, _⟩ := hx.sub.form
        have e0 := hx.op
        have e1 := hx.nm
        subst e0 e1 e2 e3
        exact ⟨_, _, _, _, _, _, _, _, rfl⟩)
      (foB brN) 49 #[.pointer (some ⟨X.heap.size, 0, none⟩), .pointer (some ⟨X.heap.size + 3, 0, none⟩)] (enters_of Tryd.func49 (by kernel_rfl) rfl) ⟨#[44, 32]⟩
      (fun W => W.cell? ⟨V.heap.size, 0, none⟩ = some (.slice sa fs.length cap) ∧ SlF dn W (.slice sa fs.length cap) fs ∧ TxS w1.heap.size X.heap.size 41 W)
      (fun W W' hz hg => by
        obtain ⟨z1, z2, z3⟩ := hz
        have hl3 := z3.lt
        have no : ∀ q, q < U.heap.size → q ≠ w1.heap.size → ¬ G0 w1.heap.size (.slice none 0 0) U.heap.size q := fun q h1 h2 h => (hG q h).elim h2 fun h => by omega
        refine ⟨(hg.cell (p := ⟨V.heap.size, 0, none⟩) (by show V.heap.size < _; omega) (no V.heap.size (by omega) (by omega))).trans z1, slF_grow z2 hg hGd (by omega),
          (hg.cell (p := ⟨X.heap.size, 0, none⟩) (by show X.heap.size < _; omega) (no X.heap.size (by omega) (by omega))).trans z3.c0, (hg.cell (p := ⟨X.heap.size + 1, 0, none⟩) (by show X.heap.size + 1 < _; omega) (no (X.heap.size + 1) (by omega) (by omega))).trans z3.c1,
          (hg.cell (p := ⟨X.heap.size + 2, 0, none⟩) (by show X.heap.size + 2 < _; omega) (no (X.heap.size + 2) (by omega) (by omega))).trans z3.c2, (hg.cell (p := ⟨X.heap.size + 3, 0, none⟩) (by show X.heap.size + 3 < _; omega) (no (X.heap.size + 3) (by omega) (by omega))).trans z3.c3,
          Nat.lt_of_lt_of_le hl3 hg.size, z3.st.keep (hg.block _ z3.st.1 (no 0 (by omega) (by omega))) hg.size⟩)
      (fun W W' x args hdw h hg => by
        obtain ⟨y0, y1, y2, y3, rfl, hx⟩ := h
        exact ⟨y0, y1, y2, y3, rfl, foV_grow hx hg hGd (by omega)⟩)
      ⟨hcU, hslU, hTx⟩ (fun O W hz hH hO => ⟨hz.1, hz.2.1, by omega, by omega, fun q hq => hGd q (hO q hq)⟩) 140737488355200 (by omega)
      (by
        rintro k x W args u m hx ⟨y0, y1, y2, y3, rfl, hxv⟩ hz hH hs hbu hm
        have hxa : x ∈ fs := List.mem_of_getElem? hx
        refine write_c true brN 41 needed_ok _ x (Nat.lt_succ_self _) 1 (hall x hxa) (Int.le_refl _) W w1.heap.size w1.heap.size dn X.heap.size u y0 y1 y2 y3 m hbu hxv hz.2.2 (fun q hq => ?_) (by omega) (by omega) hm
        rcases hs q hq with h | h
        · rw [ob_nil] at h; subst h; refine ⟨by omega, by omega, by omega, by omega, by omega⟩
        · refine ⟨by omega, by omega, by omega, by omega, by omega⟩)
      (by
        have := HLEN.out HRT.out
        unfold fsB at this
        simp only [List.length_nil]
        omega)
    refine (callsIn_wide.1 hjoin).mono ?_
    rintro e Y ⟨rfl, v9, e1, e2, e3⟩
    have hzY := e2.size
    have hst := Lib.hid (str_c e1 (by omega))
    have hbY : Below w1.heap.size w1 Y := hbwU.trans (e2.below (by omega) fun q hq => by rw [ob_nil] at hq; omega)
    have HBY := Lib.hid (HB1.out.trans (hbY.mono HB1.out.size))
    clear hjoin e1 e2 e3 hbdU hslU hcU hTx hbU hbX cX hbVU hbwU hbY hG hGd hall
    go_wp2_with fail
    refine hst.out.mono ?_
    rintro e Q ⟨rfl, hbQ⟩
    have HBQ := Lib.hid (HBY.out.trans (hbQ.mono HB1.out.size))
    clear hbQ hst
    go_wp2_with fail
    (try simp only [Exit.inBlock, Exit.then])
    refine bodyPost_ret (v := .tuple #[.string (bs ([] ++ jn (⟨#[44, 32]⟩ : ByteArray).data.toList (fs.map (foB brN)))), .int .i64 0]) (by simp [results, Tryd.results18, go_sem]) rfl ?_
    exact ⟨by rw [← HRR.out]; rfl, HBQ.out⟩
theorem fsB_one (f : Fo) : fsB [f] = foB brN f := jn_one _ _
set_option maxHeartbeats 4000000 in
set_option maxRecDepth 20000 in
theorem form_c (v0 v1 v2 v3 : Value) (f : Fo) (dn : Nat) (w : World) (hf : FoV dn w v0 v1 v2 v3 f) (hd : dn ≤ w.heap.size) (hT : RTab w) (hS : STab w) :
    Calls Tryd.prog 9 #[.agg #[v0, v1, v2, v3]] w fun e w' => e = .returned (TxtR (rightB true f) (foB brN f)) ∧ Below w.heap.size w w' := by
  have HF := Lib.hid (fun w1 (h : Below w.heap.size w w1) => (⟨hf.below h hd, hT.below h hT.1, hS.keep (h.block _ hS.1) h.size⟩ : _ ∧ _ ∧ _))
  have hop := fov_opsOk hf
  have HOP := Lib.hid hop
  obtain ⟨rfl, _, rfl, hok, hA, hS'⟩ := hf
  obtain ⟨⟨a1, k1, rfl⟩, _⟩ := hA.form
  obtain ⟨⟨a2, k2, rfl⟩, _⟩ := hS'.form
  obtain ⟨s, er, hR⟩ : ∃ s er, TxtR (rightB true f) (foB brN f) = .tuple #[.string s, .int .i64 er] := ⟨_, _, rfl⟩
  rw [hR]
  have HR := Lib.hid hR
  clear hA hS' hok hT hS hop hR
  go_enter Tryd.func9, Tryd.ntmps9
  go_wp2_with fail
  have hb1 : Below w.heap.size w (w.alloc (.cells #[.int .u8 f.op, .string f.n, .slice a1 f.args.length k1, .slice a2 f.sub.length k2] 25)) := (Below.refl _ _).alloc (Nat.le_refl _) _
  have hz1 : (w.alloc (.cells #[.int .u8 f.op, .string f.n, .slice a1 f.args.length k1, .slice a2 f.sub.length k2] 25)).heap.size = w.heap.size + 1 := by simp
  obtain ⟨X, hX⟩ : ∃ X, w.alloc (.cells #[.int .u8 f.op, .string f.n, .slice a1 f.args.length k1, .slice a2 f.sub.length k2] 25) = X := ⟨_, rfl⟩
  rw [hX] at hb1 hz1 ⊢
  clear hX
  obtain ⟨c0, c1, c2, c3, cz⟩ := box4 X (.int .u8 f.op) (.string f.n) (.slice a1 f.args.length k1) (.slice a2 f.sub.length k2) 25
  have hb2 : Below X.heap.size X (X.alloc (.cells #[.int .u8 f.op, .string f.n, .slice a1 f.args.length k1, .slice a2 f.sub.length k2] 25)) := (Below.refl _ _).alloc (Nat.le_refl _) _
  have hzz : X.heap.size = w.heap.size + 1 := hz1
  have e1 : (⟨w.heap.size + 1, 0, none⟩ : Addr) = ⟨X.heap.size, 0, none⟩ := by rw [hz1]
  generalize hYY : X.alloc (.cells #[.int .u8 f.op, .string f.n, .slice a1 f.args.length k1, .slice a2 f.sub.length k2] 25) = Y at *
  obtain ⟨hfY, hTY, hSY⟩ := HF.out Y (hb1.trans (hb2.mono hb1.size))
  have hsl := slF_one c0 c1 c2 c3 (hfY.mono (Nat.le_trans hd (Nat.le_trans hb1.size hb2.size))) cz
  have hfo := forms_c [f] _ Y.heap.size Y hsl (Nat.le_refl _) hTY hSY (fun g hg => by rw [List.mem_singleton.1 hg]; exact HOP.out) (fun h => by
    rw [fsB_one]
    have := foB_len (List.all_eq_true.1 h f (List.mem_singleton.2 rfl)) HOP.out brN
    omega)
  rw [fsB_one, List.all_cons, List.all_nil, Bool.and_true, HR.out] at hfo
  rw [hzz] at hfo
  refine hfo.mono ?_
  rintro e w3 ⟨rfl, hb3⟩
  have HB := Lib.hid (hb1.trans ((hb2.trans (hb3.mono hb2.size)).mono hb1.size))
  clear hfo hsl hfY hTY hSY hb1 hb2 hb3 c0 c1 c2 c3 cz hYY
  go_wp2_with fail
  (try simp only [Exit.inBlock, Exit.then])
  refine bodyPost_ret (v := .tuple #[.string s, .int .i64 er]) (by simp [results, Tryd.results9, go_sem]) rfl ?_
  exact ⟨rfl, HB.out⟩
end Go.Proofs.YtdapnjnmhkdnpaaDoor.Fb

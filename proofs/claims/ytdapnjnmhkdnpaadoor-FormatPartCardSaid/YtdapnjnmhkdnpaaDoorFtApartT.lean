/-
  Schemas that differ have different texts, full texts and prefix texts.
-/
import Derived.Test.YtdapnjnmhkdnpaaDoorMgText
namespace Go.Proofs.YtdapnjnmhkdnpaaDoor.Fb
open Go Go.RowKit Go.Proofs.YtdapnjnmhkdnpaaDoor.Fm Go.Proofs.YtdapnjnmhkdnpaaDoor.Lx Go.Proofs.YtdapnjnmhkdnpaaDoor.Ps Go.Proofs.YtdapnjnmhkdnpaaDoor.Ft
set_option linter.unusedVariables false
set_option linter.unusedSimpArgs false
theorem stop_end' (n : Int) : Stop 0 [⟨5, ⟨#[]⟩, n⟩] := by
  have e : tx [⟨5, ⟨#[]⟩, n⟩] = ⟨#[]⟩ := rfl
  refine ⟨?_, ?_, fun k _ hk => ?_⟩ <;> rw [e]
  · decide
  · decide
  · rcases (by omega : k = 0 ∨ k = 1 ∨ k = 2 ∨ k = 3 ∨ k = 4) with rfl | rfl | rfl | rfl | rfl <;> decide
/-- The words of a text are told by its bytes. -/
theorem wd_of_bytes {p q : Pc} (hp : LxOk p []) (hq : LxOk q []) (h : byP p = byP q) : wd p = wd q := by
  obtain ⟨zs, n, h1, h2, _⟩ := lx_toks p hp 0
  obtain ⟨ys, k, h3, h4, _⟩ := lx_toks q hq 0
  rw [h, h3] at h1
  have := (List.append_inj' h1 rfl).1
  rw [← h2, ← h4, this]
/-- Words that are read as two formulas: they are one. -/
theorem tx_inj {m : Bool} {d e : Nat} {f g : Fo} {xs : List ByteArray} (h : TxF m 0 d f xs) (k : TxF m 0 e g xs) (hd : d ≤ 120) (he : e ≤ 120) : f = g := by
  have h1 := (txt_read h 0 (xs.map fun w => ⟨0, w, 0⟩) [⟨5, ⟨#[]⟩, 0⟩] (by rw [List.map_map]; exact List.map_id' _) (by omega)).1 (stop_end' 0)
  have h2 := (txt_read k 0 (xs.map fun w => ⟨0, w, 0⟩) [⟨5, ⟨#[]⟩, 0⟩] (by rw [List.map_map]; exact List.map_id' _) (by omega)).1 (stop_end' 0)
  rw [h1] at h2
  injection h2
theorem fo_txt0 {m : Bool} {s : Sty} (hs : StyOk s) {br : Fo → Nat → Bool} (hbr : ∀ F i g, F.sub[i]? = some g → (i = 0 ∨ str F.op < 6) → needB F i g = true → br F i = true) {f : Fo} {lv : Int} (hk : FoK m lv f) (h1 : 1 ≤ lv) : TxF m 0 (2 * (41 - lv).toNat) f (wd (foP s br f)) := by
  have h1 := fo_txt m s hs.c.wd br hbr _ f (Nat.lt_succ_self _) lv hk h1
  have := str_le f.op
  exact ups h1 (Nat.zero_le _) (by omega)
theorem foP_inj {m : Bool} {s : Sty} (hs : StyOk s) {br : Fo → Nat → Bool} (hbr : ∀ F i g, F.sub[i]? = some g → (i = 0 ∨ str F.op < 6) → needB F i g = true → br F i = true) {f g : Fo} {lv lw : Int} (hf : FoK m lv f) (hlv : 1 ≤ lv) (hg : FoK m lw g) (hlw : 1 ≤ lw) (h : byP (foP s br f) = byP (foP s br g)) : f = g := by
  have hw := wd_of_bytes (fo_lex m s hs br _ f (Nat.lt_succ_self _) lv hf hlv [] spc_nil) (fo_lex m s hs br _ g (Nat.lt_succ_self _) lw hg hlw [] spc_nil) h
  have h1 := fo_txt0 hs hbr hf hlv
  have h2 := fo_txt0 hs hbr hg hlw
  rw [hw] at h1
  exact tx_inj h1 h2 (by omega) (by omega)
/-- A leaf is told by its text without blanks. -/
theorem leaf_inj {m : Bool} {f g : Fo} {lv lw : Int} (hf : FoK m lv f) (hlv : 1 ≤ lv) (hg : FoK m lw g) (hlw : 1 ≤ lw) (sf : f.sub = []) (sg : g.sub = []) (h : baB [] f = baB [] g) : f = g := by
  refine foP_inj styP_ok brN_ok hf hlv hg hlw ?_
  have e : ∀ x : Fo, x.sub = [] → byP (foP styP brN x) = baB [] x := by
    rintro ⟨o, n, a, s⟩ hx
    have hx : s = [] := hx
    subst hx
    rw [foP]
    rfl
  rw [e f sf, e g sg, h]
/-- How a leaf begins. -/
def lfH (c : UInt8) : Bool := (decide (65 ≤ (c.toNat : Int)) && decide ((c.toNat : Int) ≤ 90)) || c == 102 || c == 63
theorem leaf_head {m : Bool} {f : Fo} (h : Shp m f) (hs : f.sub = []) : ∃ c r, baB [] f = c :: r ∧ lfH c = true := by
  cases h with
  | @ato n a hp h4 ha =>
    obtain ⟨_, c, r, e, h1, h2, _⟩ := names_head hp
    refine ⟨c, r ++ byP (tmPA [] a), ?_, ?_⟩
    · unfold baB basP
      simp [Fo.op, Fo.n, Fo.args, e]
    · unfold lfH
      rw [decide_eq_true (by omega), decide_eq_true (by omega)]
      rfl
  | fal => exact ⟨102, [97, 108, 115, 101], by decide, by decide⟩
  | @met n hm hn =>
    obtain ⟨_, r, e⟩ := met_head (mf_met hn)
    refine ⟨63, r, ?_, by decide⟩
    unfold baB basP
    simp [Fo.op, Fo.n, Fo.args, e, tmPA]
  | @ins n t x hm hn ht hx =>
    obtain ⟨_, r, e⟩ := met_head (mf_met hn)
    refine ⟨63, r ++ (91 :: (t.data.toList ++ (47 :: (x.data.toList ++ [93])))), ?_, by decide⟩
    unfold baB basP
    simp [Fo.op, Fo.n, Fo.args, e, Tm.n]
  | qua => simp [Fo.sub] at hs
  | una => simp [Fo.sub] at hs
  | bin => simp [Fo.sub] at hs
theorem ite_p {c : Prop} [Decidable c] {P : ByteArray → Prop} {a b : ByteArray} (ha : P a) (hb : P b) : P (if c then a else b) := by split <;> assumption
theorem sgW_ind {P : ByteArray → Prop} (h1 : P ⟨#[126]⟩) (h2 : P ⟨#[38]⟩) (h3 : P ⟨#[124]⟩) (h4 : P ⟨#[45, 62]⟩) (h5 : P ⟨#[60, 45, 62]⟩) (h6 : P ⟨#[97, 108, 108]⟩) (h7 : P ⟨#[115, 111, 109, 101]⟩) (h8 : P ⟨#[91, 93]⟩) (h9 : P ⟨#[60, 62]⟩) (h10 : P ⟨#[110, 101, 120, 116]⟩)
    (h11 : P ⟨#[97, 108, 119, 97, 121, 115]⟩) (h12 : P ⟨#[117, 110, 116, 105, 108]⟩) (o : Int) : P (sgW o) := by
  unfold sgW
  exact ite_p h1 (ite_p h2 (ite_p h3 (ite_p h4 (ite_p h5 (ite_p h6 (ite_p h7 (ite_p h8 (ite_p h9 (ite_p h10 (ite_p h11 h12))))))))))
theorem sg_head (o : Int) : ∃ c r, (sgW o).data.toList = c :: r ∧ lfH c = false :=
  sgW_ind (P := fun s => ∃ c r, s.data.toList = c :: r ∧ lfH c = false) ⟨_, _, rfl, by decide⟩ ⟨_, _, rfl, by decide⟩ ⟨_, _, rfl, by decide⟩ ⟨_, _, rfl, by decide⟩ ⟨_, _, rfl, by decide⟩ ⟨_, _, rfl, by decide⟩ ⟨_, _, rfl, by decide⟩ ⟨_, _, rfl, by decide⟩ ⟨_, _, rfl, by decide⟩ ⟨_, _, rfl, by decide⟩ ⟨_, _, rfl, by decide⟩ ⟨_, _, rfl, by decide⟩ o
def opOf (l : Bs) : Int := if l = [126] then 3 else if l = [38] then 4 else if l = [124] then 5 else if l = [45, 62] then 6 else if l = [60, 45, 62] then 7 else if l = [97, 108, 108] then 8 else
  if l = [115, 111, 109, 101] then 9 else if l = [91, 93] then 10 else if l = [60, 62] then 11 else if l = [110, 101, 120, 116] then 12 else if l = [97, 108, 119, 97, 121, 115] then 13 else 14
theorem opOf_sg {o : Int} (h1 : 3 ≤ o) (h2 : o ≤ 14) : opOf (sgW o).data.toList = o := by
  rcases (by omega : o = 3 ∨ o = 4 ∨ o = 5 ∨ o = 6 ∨ o = 7 ∨ o = 8 ∨ o = 9 ∨ o = 10 ∨ o = 11 ∨ o = 12 ∨ o = 13 ∨ o = 14) with rfl | rfl | rfl | rfl | rfl | rfl | rfl | rfl | rfl | rfl | rfl | rfl <;> decide
theorem sg_inj {a b : Int} (a1 : 3 ≤ a) (a2 : a ≤ 14) (b1 : 3 ≤ b) (b2 : b ≤ 14) (h : (sgW a).data.toList = (sgW b).data.toList) : a = b := by
  rw [← opOf_sg a1 a2, h, opOf_sg b1 b2]
inductive Kd : Fo → Prop
  | leaf {f} : f.sub = [] → Kd f
  | one {o n g} : o = 8 ∨ o = 9 → varB n = true → Kd (.mk o n [] [g])
  | una {o g} : o = 3 ∨ o = 10 ∨ o = 11 ∨ o = 12 ∨ o = 13 → Kd (.mk o ⟨#[]⟩ [] [g])
  | bin {o g h} : o = 4 ∨ o = 5 ∨ o = 6 ∨ o = 7 ∨ o = 14 → Kd (.mk o ⟨#[]⟩ [] [g, h])
theorem shp_kd {m : Bool} {f : Fo} (h : Shp m f) : Kd f := by
  cases h with
  | ato => exact .leaf rfl
  | fal => exact .leaf rfl
  | met => exact .leaf rfl
  | ins => exact .leaf rfl
  | qua ho hn => exact .one ho hn
  | una ho => exact .una ho
  | bin ho => exact .bin ho
theorem pw_one {o : Int} {n : ByteArray} {g : Fo} (hn : varB n = true) : pwB (.mk o n [] [g]) = (sgW o).data.toList :: n.data.toList :: pwB g := by
  have hne : ¬ n.size = 0 := fun h => varB_ne hn (by obtain ⟨d⟩ := n; have h : d.size = 0 := h; rw [Array.eq_empty_of_size_eq_zero h])
  rw [pwB_node (by simp [Fo.sub])]
  simp [Fo.op, Fo.n, Fo.sub, hne]
theorem pw_una {o : Int} {g : Fo} : pwB (.mk o ⟨#[]⟩ [] [g]) = (sgW o).data.toList :: pwB g := by
  rw [pwB_node (by simp [Fo.sub])]
  have e : (⟨#[]⟩ : ByteArray).size = 0 := rfl
  simp [Fo.op, Fo.n, Fo.sub, e]
theorem pw_bin {o : Int} {g h : Fo} : pwB (.mk o ⟨#[]⟩ [] [g, h]) = (sgW o).data.toList :: (pwB g ++ pwB h) := by
  rw [pwB_node (by simp [Fo.sub])]
  have e : (⟨#[]⟩ : ByteArray).size = 0 := rfl
  simp [Fo.op, Fo.n, Fo.sub, e]
theorem ba_ext {a b : ByteArray} (h : a.data.toList = b.data.toList) : a = b := eqB_iff.1 (by unfold eqB; rw [h]; simp)
theorem node_head {f : Fo} (h : f.sub ≠ []) : ∃ l, pwB f = (sgW f.op).data.toList :: l := ⟨_, pwB_node h⟩
theorem pw_inj {m : Bool} (N : Nat) : ∀ f, SizeOf.sizeOf f < N → ∀ (g : Fo) (lv lw : Int) (r s : List Bs), FoK m lv f → 1 ≤ lv → FoK m lw g → 1 ≤ lw → pwB f ++ r = pwB g ++ s → f = g ∧ r = s := by
  induction N with
  | zero => exact fun f h => absurd h (Nat.not_lt_zero _)
  | succ N ih =>
    intro f hN g lv lw r s hf h1 hg h2 h
    have hsf := hf.shape
    have hsg := hg.shape
    by_cases lf : f.sub = []
    · by_cases lg : g.sub = []
      · rw [pwB_leaf lf, pwB_leaf lg] at h
        obtain ⟨e1, e2⟩ := List.cons.inj h
        exact ⟨leaf_inj hf h1 hg h2 lf lg e1, e2⟩
      · obtain ⟨l, hl⟩ := node_head lg
        rw [pwB_leaf lf, hl] at h
        obtain ⟨e1, _⟩ := List.cons.inj h
        obtain ⟨c, r1, ec, hc⟩ := leaf_head hsf lf
        obtain ⟨d, r2, ed, hd⟩ := sg_head g.op
        rw [ec, ed] at e1
        obtain ⟨rfl, _⟩ := List.cons.inj e1
        rw [hc] at hd
        cases hd
    · by_cases lg : g.sub = []
      · obtain ⟨l, hl⟩ := node_head lf
        rw [pwB_leaf lg, hl] at h
        obtain ⟨e1, _⟩ := List.cons.inj h
        obtain ⟨c, r1, ec, hc⟩ := leaf_head hsg lg
        obtain ⟨d, r2, ed, hd⟩ := sg_head f.op
        rw [ec, ed] at e1
        obtain ⟨rfl, _⟩ := List.cons.inj e1
        rw [hc] at hd
        cases hd
      · cases shp_kd hsf with
        | leaf hl => exact absurd hl lf
        | @one o n p ho hn =>
          rw [pw_one hn] at h
          cases shp_kd hsg with
          | leaf hl => exact absurd hl lg
          | @one o' n' p' ho' hn' =>
            rw [pw_one hn'] at h
            obtain ⟨e1, h'⟩ := List.cons.inj h
            clear h
            obtain ⟨e2, h⟩ := List.cons.inj h'
            clear h'
            obtain rfl := sg_inj (by omega) (by omega) (by omega) (by omega) e1
            obtain rfl := ba_ext e2
            obtain ⟨rfl, rfl⟩ := ih p (by simp only [Fo.mk.sizeOf_spec, List.cons.sizeOf_spec] at hN; omega) p' (lv + 1) (lw + 1) r s (hf.sub h1 (List.mem_singleton.2 rfl)) (by omega) (hg.sub h2 (List.mem_singleton.2 rfl)) (by omega) h
            exact ⟨rfl, rfl⟩
          | una ho' => rw [pw_una] at h; obtain ⟨e1, h⟩ := List.cons.inj h; have := sg_inj (by omega) (by omega) (by omega) (by omega) e1; omega
          | bin ho' => rw [pw_bin] at h; obtain ⟨e1, h⟩ := List.cons.inj h; have := sg_inj (by omega) (by omega) (by omega) (by omega) e1; omega
        | @una o p ho =>
          rw [pw_una] at h
          cases shp_kd hsg with
          | leaf hl => exact absurd hl lg
          | one ho' hn' => rw [pw_one hn'] at h; obtain ⟨e1, h⟩ := List.cons.inj h; have := sg_inj (by omega) (by omega) (by omega) (by omega) e1; omega
          | @una o' p' ho' =>
            rw [pw_una] at h
            obtain ⟨e1, h'⟩ := List.cons.inj h
            clear h
            have h := h'
            clear h'
            obtain rfl := sg_inj (by omega) (by omega) (by omega) (by omega) e1
            obtain ⟨rfl, rfl⟩ := ih p (by simp only [Fo.mk.sizeOf_spec, List.cons.sizeOf_spec] at hN; omega) p' (lv + 1) (lw + 1) r s (hf.sub h1 (List.mem_singleton.2 rfl)) (by omega) (hg.sub h2 (List.mem_singleton.2 rfl)) (by omega) h
            exact ⟨rfl, rfl⟩
          | bin ho' => rw [pw_bin] at h; obtain ⟨e1, h⟩ := List.cons.inj h; have := sg_inj (by omega) (by omega) (by omega) (by omega) e1; omega
        | @bin o p q ho =>
          rw [pw_bin] at h
          cases shp_kd hsg with
          | leaf hl => exact absurd hl lg
          | one ho' hn' => rw [pw_one hn'] at h; obtain ⟨e1, h⟩ := List.cons.inj h; have := sg_inj (by omega) (by omega) (by omega) (by omega) e1; omega
          | una ho' => rw [pw_una] at h; obtain ⟨e1, h⟩ := List.cons.inj h; have := sg_inj (by omega) (by omega) (by omega) (by omega) e1; omega
          | @bin o' p' q' ho' =>
            rw [pw_bin] at h
            obtain ⟨e1, h'⟩ := List.cons.inj h
            clear h
            have h := h'
            clear h'
            obtain rfl := sg_inj (by omega) (by omega) (by omega) (by omega) e1
            have h : pwB p ++ pwB q ++ r = pwB p' ++ pwB q' ++ s := h
            rw [List.append_assoc, List.append_assoc] at h
            obtain ⟨rfl, k⟩ := ih p (by simp only [Fo.mk.sizeOf_spec, List.cons.sizeOf_spec] at hN; omega) p' (lv + 1) (lw + 1) _ _ (hf.sub h1 (List.mem_cons_self ..)) (by omega) (hg.sub h2 (List.mem_cons_self ..)) (by omega) h
            obtain ⟨rfl, rfl⟩ := ih q (by simp only [Fo.mk.sizeOf_spec, List.cons.sizeOf_spec] at hN; omega) q' (lv + 1) (lw + 1) r s (hf.sub h1 (List.mem_cons_of_mem _ (List.mem_singleton.2 rfl))) (by omega) (hg.sub h2 (List.mem_cons_of_mem _ (List.mem_singleton.2 rfl))) (by omega) k
            exact ⟨rfl, rfl⟩
/-- No blank in a text. -/
def n32 (l : Bs) : Prop := ∀ c ∈ l, c ≠ 32
theorem n32_app {a b : Bs} (h : n32 a) (k : n32 b) : n32 (a ++ b) := fun c hc => (List.mem_append.1 hc).elim (h c) (k c)
theorem n32_cons {a : UInt8} {b : Bs} (h : a ≠ 32) (k : n32 b) : n32 (a :: b) := fun c hc => by
  rcases List.mem_cons.1 hc with rfl | hc
  · exact h
  · exact k c hc
theorem n32_nil : n32 [] := fun c hc => by cases hc
theorem lod_32 {l : Bs} (h : l.all lod = true) : n32 l := fun c hc e => by
  have := List.all_eq_true.1 h c hc
  rw [e] at this
  exact absurd this (by decide)
theorem nm_32 {f t : Int} {p : Int → Bool} {s : ByteArray} (h : namesB f t p s = true) (hf : 32 < f) (hp : ∀ c : UInt8, p c.toNat = true → lod c = true) : n32 s.data.toList := by
  obtain ⟨_, c, r, e, h1, _, h3⟩ := names_head h
  rw [e]
  refine n32_cons ?_ (lod_32 (all_lod h3 hp))
  rintro rfl
  exact absurd h1 (by show ¬ f ≤ ((32 : UInt8).toNat : Int); have : ((32 : UInt8).toNat : Int) = 32 := rfl; omega)
theorem var_32 {s : ByteArray} (h : varB s = true) : n32 s.data.toList := nm_32 h (by decide) fun c => lod_dig
theorem fn_32 {s : ByteArray} (h : fnB s = true) : n32 s.data.toList := nm_32 (fn_names h) (by decide) fun c => lod_of
theorem pred_32 {s : ByteArray} (h : predB s = true) : n32 s.data.toList := nm_32 h (by decide) fun c => lod_of
theorem met_32 {s : ByteArray} (h : metB s = true) : n32 s.data.toList := by
  obtain ⟨_, l, e⟩ := met_head h
  rw [e]
  exact n32_cons (by decide) (lod_32 (met_rest h e))
theorem jn_32 {sep : Bs} (hs : n32 sep) : ∀ l : List Bs, (∀ x ∈ l, n32 x) → n32 (jn sep l)
  | [], _ => n32_nil
  | x :: r, h => by
    unfold jn
    refine n32_app (h x (List.mem_cons_self ..)) fun c hc => ?_
    obtain ⟨y, hy, hc⟩ := List.mem_flatMap.1 hc
    exact n32_app hs (h y (List.mem_cons_of_mem _ hy)) c hc
theorem ap_32 {n : ByteArray} {a : List Tm} (hn : n32 n.data.toList) (ha : ∀ t ∈ a, n32 (tmB [] t)) : n32 (apB [] n a) := by
  by_cases h : a = []
  · subst h; rw [apB_nil]; exact hn
  · rw [apB_cons _ _ _ h]
    refine n32_app hn (n32_cons (by decide) (n32_app (jn_32 (by unfold cmB; rw [byP_nil]; exact n32_cons (by decide) n32_nil) _ fun x hx => ?_) (n32_cons (by decide) n32_nil)))
    obtain ⟨t, ht, rfl⟩ := List.mem_map.1 hx
    exact ha t ht
theorem tm_32 (m : Bool) (N : Nat) : ∀ t : Tm, SizeOf.sizeOf t < N → t.right m = true → n32 (tmB [] t) := by
  induction N with
  | zero => exact fun f h => absurd h (Nat.not_lt_zero _)
  | succ N ih =>
    rintro ⟨v, n, a⟩ hN hr
    unfold tmB
    cases v with
    | true =>
      obtain ⟨rfl, hn⟩ := right_var hr
      rw [Bool.or_eq_true] at hn
      exact ap_32 (hn.elim var_32 fun h => met_32 (mt_met h)) fun t ht => by cases ht
    | false =>
      obtain ⟨hn, _, ha⟩ := right_fn hr
      refine ap_32 (fn_32 hn) fun t ht => ih t ?_ (ha t ht)
      have : SizeOf.sizeOf t < SizeOf.sizeOf a := List.sizeOf_lt_of_mem ht
      simp only [Tm.mk.sizeOf_spec] at hN
      omega
theorem leaf_32 {m : Bool} {f : Fo} (h : Shp m f) (hs : f.sub = []) : n32 (baB [] f) := by
  cases h with
  | @ato n a hp h4 ha =>
    have e : baB [] (.mk 1 n a []) = apB [] n a := by
      unfold baB basP apB
      simp [Fo.op, Fo.n, Fo.args]
    rw [e]
    exact ap_32 (pred_32 hp) fun t ht => tm_32 m _ t (Nat.lt_succ_self _) (ha t ht)
  | fal => exact (by decide : ∀ c ∈ baB [] (.mk 2 ⟨#[]⟩ [] []), c ≠ 32)
  | @met n hm hn =>
    have e : baB [] (.mk 15 n [] []) = n.data.toList := by
      unfold baB basP
      simp [Fo.op, Fo.n, Fo.args, tmPA]
    rw [e]
    exact met_32 (mf_met hn)
  | @ins n t x hm hn ht hx =>
    have e : baB [] (.mk 16 n [.mk true x [], .mk true t []] []) = n.data.toList ++ (91 :: (t.data.toList ++ (47 :: (x.data.toList ++ [93])))) := by
      unfold baB basP
      simp [Fo.op, Fo.n, Fo.args, Tm.n]
    rw [e]
    exact n32_app (met_32 (mf_met hn)) (n32_cons (by decide) (n32_app (met_32 (mt_met ht)) (n32_cons (by decide) (n32_app (var_32 hx) (n32_cons (by decide) n32_nil)))))
  | qua => simp [Fo.sub] at hs
  | una => simp [Fo.sub] at hs
  | bin => simp [Fo.sub] at hs
theorem sg_32 (o : Int) : n32 (sgW o).data.toList := by
  have : ((sgW o).data.toList.all fun c => c != 32) = true := sgW_ind (P := fun s => (s.data.toList.all fun c => c != 32) = true) (by decide) (by decide) (by decide) (by decide) (by decide) (by decide) (by decide) (by decide) (by decide) (by decide) (by decide) (by decide) o
  intro c hc
  have := List.all_eq_true.1 this c hc
  simpa using this
theorem pw_32 {m : Bool} (N : Nat) : ∀ f, SizeOf.sizeOf f < N → ∀ (lv : Int), FoK m lv f → 1 ≤ lv → ∀ x ∈ pwB f, n32 x := by
  induction N with
  | zero => exact fun f h => absurd h (Nat.not_lt_zero _)
  | succ N ih =>
    intro f hN lv hf h1 x hx
    cases shp_kd hf.shape with
    | leaf hl =>
      rw [pwB_leaf hl, List.mem_singleton] at hx
      subst hx
      exact leaf_32 hf.shape hl
    | @one o n p ho hn =>
      rw [pw_one hn] at hx
      rcases List.mem_cons.1 hx with rfl | hx
      · exact sg_32 o
      rcases List.mem_cons.1 hx with rfl | hx
      · exact var_32 hn
      · exact ih p (by simp only [Fo.mk.sizeOf_spec, List.cons.sizeOf_spec] at hN; omega) (lv + 1) (hf.sub h1 (List.mem_singleton.2 rfl)) (by omega) x hx
    | @una o p ho =>
      rw [pw_una] at hx
      rcases List.mem_cons.1 hx with rfl | hx
      · exact sg_32 o
      · exact ih p (by simp only [Fo.mk.sizeOf_spec, List.cons.sizeOf_spec] at hN; omega) (lv + 1) (hf.sub h1 (List.mem_singleton.2 rfl)) (by omega) x hx
    | @bin o p q ho =>
      rw [pw_bin] at hx
      rcases List.mem_cons.1 hx with rfl | hx
      · exact sg_32 o
      rcases List.mem_append.1 hx with hx | hx
      · exact ih p (by simp only [Fo.mk.sizeOf_spec, List.cons.sizeOf_spec] at hN; omega) (lv + 1) (hf.sub h1 (List.mem_cons_self ..)) (by omega) x hx
      · exact ih q (by simp only [Fo.mk.sizeOf_spec, List.cons.sizeOf_spec] at hN; omega) (lv + 1) (hf.sub h1 (List.mem_cons_of_mem _ (List.mem_singleton.2 rfl))) (by omega) x hx
theorem tw_32 : ∀ (w : Bs) (r : Bs), n32 w → (w ++ 32 :: r).takeWhile (· != 32) = w ∧ (w ++ 32 :: r).dropWhile (· != 32) = 32 :: r
  | [], r, _ => ⟨rfl, rfl⟩
  | c :: w, r, h => by
    have hc : (c != 32) = true := bne_iff_ne.2 (h c (List.mem_cons_self ..))
    obtain ⟨h1, h2⟩ := tw_32 w r fun d hd => h d (List.mem_cons_of_mem _ hd)
    rw [List.cons_append, List.takeWhile_cons, List.dropWhile_cons, hc]
    simp only [if_true]
    exact ⟨by rw [h1], h2⟩
theorem jn_cons2 (sep x y : Bs) (r : List Bs) : jn sep (x :: y :: r) = x ++ (sep ++ jn sep (y :: r)) := by simp [jn]
theorem jn_inj : ∀ (ws us : List Bs), (∀ x ∈ ws, n32 x) → (∀ x ∈ us, n32 x) → ws ≠ [] → us ≠ [] → jn [32] ws = jn [32] us → ws = us
  | [], _, _, _, h, _, _ => absurd rfl h
  | _, [], _, _, _, h, _ => absurd rfl h
  | [w], [u], _, _, _, _, h => by rw [jn_one, jn_one] at h; rw [h]
  | [w], u :: u2 :: r, hw, _, _, _, h => by
    rw [jn_one, jn_cons2] at h
    exact absurd rfl (hw w (List.mem_singleton.2 rfl) 32 (by rw [h]; simp))
  | w :: w2 :: r, [u], _, hu, _, _, h => by
    rw [jn_one, jn_cons2] at h
    exact absurd rfl (hu u (List.mem_singleton.2 rfl) 32 (by rw [← h]; simp))
  | w :: w2 :: r, u :: u2 :: s, hw, hu, _, _, h => by
    rw [jn_cons2, jn_cons2] at h
    have a := tw_32 w (jn [32] (w2 :: r)) (hw w (List.mem_cons_self ..))
    have b := tw_32 u (jn [32] (u2 :: s)) (hu u (List.mem_cons_self ..))
    have h : w ++ 32 :: jn [32] (w2 :: r) = u ++ 32 :: jn [32] (u2 :: s) := h
    rw [h] at a
    have e1 : w = u := a.1.symm.trans b.1
    have e2 := a.2.symm.trans b.2
    obtain ⟨_, e2⟩ := List.cons.inj e2
    rw [e1, jn_inj (w2 :: r) (u2 :: s) (fun x hx => hw x (List.mem_cons_of_mem _ hx)) (fun x hx => hu x (List.mem_cons_of_mem _ hx)) (by simp) (by simp) e2]
theorem pwB_ne (f : Fo) : pwB f ≠ [] := by
  by_cases h : f.sub = []
  · rw [pwB_leaf h]; simp
  · rw [pwB_node h]; simp
/-- Schemas that differ have different texts. -/
theorem pf_inj {m : Bool} {f g : Fo} (hf : FoK m 1 f) (hg : FoK m 1 g) (h : pfB f = pfB g) : f = g := by
  have h := jn_inj _ _ (pw_32 _ f (Nat.lt_succ_self _) 1 hf (Int.le_refl _)) (pw_32 _ g (Nat.lt_succ_self _) 1 hg (Int.le_refl _)) (pwB_ne f) (pwB_ne g) h
  exact (pw_inj _ f (Nat.lt_succ_self _) g 1 1 [] [] hf (Int.le_refl _) hg (Int.le_refl _) (by rw [h])).1
theorem foB_inj {m : Bool} {br : Fo → Nat → Bool} (hbr : ∀ F i g, F.sub[i]? = some g → (i = 0 ∨ str F.op < 6) → needB F i g = true → br F i = true) {f g : Fo} (hf : FoK m 1 f) (hg : FoK m 1 g) (h : foB br f = foB br g) : f = g := foP_inj styN_ok hbr hf (Int.le_refl _) hg (Int.le_refl _) h
theorem head_ne {m : Bool} {f : Fo} (hf : Shp m f) : ∃ c r l, pwB f = (c :: r) :: l := by
  by_cases h : f.sub = []
  · rw [pwB_leaf h]
    obtain ⟨c, r, e, _⟩ := leaf_head hf h
    exact ⟨c, r, [], by rw [e]⟩
  · obtain ⟨l, hl⟩ := node_head h
    obtain ⟨c, r, e, _⟩ := sg_head f.op
    exact ⟨c, r, l, by rw [hl, e]⟩
theorem pf_ne {m : Bool} {f : Fo} (hf : Shp m f) : pfB f ≠ [] := by
  obtain ⟨c, r, l, h⟩ := head_ne hf
  unfold pfB
  rw [h]
  simp [jn]
theorem foB_ne {m : Bool} {br : Fo → Nat → Bool} (N : Nat) : ∀ f, SizeOf.sizeOf f < N → ∀ (lv : Int), FoK m lv f → 1 ≤ lv → foB br f ≠ [] := by
  intro f _ lv hf h1
  cases shp_kd hf.shape with
  | leaf hl =>
    rw [foB_bas hl]
    cases hf.shape with
    | @ato n a hp h4 ha =>
      obtain ⟨_, c, r, e, _⟩ := names_head hp
      unfold baB basP
      simp [Fo.op, Fo.n, Fo.args, e]
    | fal => decide
    | @met n hm hn =>
      obtain ⟨_, r, e⟩ := met_head (mf_met hn)
      unfold baB basP
      simp [Fo.op, Fo.n, Fo.args, e]
    | @ins n t x hm hn ht hx =>
      obtain ⟨_, r, e⟩ := met_head (mf_met hn)
      unfold baB basP
      simp [Fo.op, Fo.n, Fo.args, e]
    | qua => simp [Fo.sub] at hl
    | una => simp [Fo.sub] at hl
    | bin => simp [Fo.sub] at hl
  | one ho hn =>
    rw [foB_una rfl rfl]
    obtain ⟨c, r, e, _⟩ := sg_head (Fo.mk _ _ [] [_]).op
    unfold ahB
    rw [e]
    simp
  | una ho =>
    rw [foB_una rfl rfl]
    obtain ⟨c, r, e, _⟩ := sg_head (Fo.mk _ _ [] [_]).op
    unfold ahB
    rw [e]
    simp
  | bin ho =>
    rw [foB_bin rfl]
    simp
end Go.Proofs.YtdapnjnmhkdnpaaDoor.Fb

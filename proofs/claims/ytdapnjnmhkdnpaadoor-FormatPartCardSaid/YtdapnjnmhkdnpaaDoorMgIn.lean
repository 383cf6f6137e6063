/-
  Several texts in one: FtPartT, FtPartR, FtShelf2, FtInside.
-/
import Derived.Test.YtdapnjnmhkdnpaaDoorMgText
import Derived.Test.YtdapnjnmhkdnpaaDoorMgAt
import Derived.Test.YtdapnjnmhkdnpaaDoorFtOps
import Derived.Test.YtdapnjnmhkdnpaaDoorFtApartT
import Derived.Lib.IndexMore
import Derived.Shelf.Strings.Search3
import Derived.ShapedOpen
import Derived.Test.YtdapnjnmhkdnpaaDoorProg
import Derived.Test.YtdapnjnmhkdnpaaDoorFtApart

/-
  The text of a part stands in the text of the whole.
-/
namespace Go.Proofs.YtdapnjnmhkdnpaaDoor.Fb
open Go Go.RowKit Go.Proofs.YtdapnjnmhkdnpaaDoor.Fm Go.Proofs.YtdapnjnmhkdnpaaDoor.Lx Go.Proofs.YtdapnjnmhkdnpaaDoor.Ps Go.Proofs.YtdapnjnmhkdnpaaDoor.Ft
set_option linter.unusedVariables false
set_option linter.unusedSimpArgs false
theorem par_inf (b : Bool) (x : Bs) : x <:+: parB b x := by
  unfold parB
  cases b with
  | false => exact List.infix_refl _
  | true => exact ⟨[40], [41], by simp⟩
theorem foB_part {m : Bool} {br : Fo → Nat → Bool} : ∀ (is : List Int) (f g : Fo) (lv : Int), FoK m lv f → 1 ≤ lv → atF f is = some g → foB br g <:+: foB br f ∧ ∃ lv', 1 ≤ lv' ∧ FoK m lv' g
  | [], f, g, lv, hk, h1, h => by
    rw [atF] at h
    injection h with h
    subst h
    exact ⟨List.infix_refl _, lv, h1, hk⟩
  | i :: r, f, g, lv, hk, h1, h => by
    rw [atF] at h
    split at h
    · next hi =>
      split at h
      · next p hp =>
        have hm : p ∈ f.sub := List.mem_of_getElem? hp
        obtain ⟨hin, hex⟩ := foB_part r p g (lv + 1) (hk.sub h1 hm) (by omega) h
        refine ⟨hin.trans ?_, hex⟩
        have hs := hk.shape
        cases hs with
        | ato => simp [Fo.sub] at hp
        | fal => simp [Fo.sub] at hp
        | met => simp [Fo.sub] at hp
        | ins => simp [Fo.sub] at hp
        | @qua o n q ho hn =>
          rw [foB_una (f := .mk _ _ [] [q]) (g := q) rfl rfl]
          simp only [Fo.sub] at hm
          obtain rfl : p = q := by simpa using hm
          exact (par_inf _ _).trans (List.infix_append_of_infix_right (List.infix_refl _))
        | @una o q ho =>
          rw [foB_una (f := .mk _ _ [] [q]) (g := q) rfl rfl]
          simp only [Fo.sub] at hm
          obtain rfl : p = q := by simpa using hm
          exact (par_inf _ _).trans (List.infix_append_of_infix_right (List.infix_refl _))
        | @bin o q q' ho =>
          rw [foB_bin (f := .mk _ _ [] [q, q']) (g := q) (h := q') rfl]
          simp only [Fo.sub] at hm
          rcases List.mem_cons.1 hm with rfl | hm
          · exact (par_inf _ _).trans (List.infix_append_of_infix_left (List.infix_refl _))
          · obtain rfl : p = q' := by simpa using hm
            have h1 : parB (br (.mk o ⟨#[]⟩ [] [q, p]) 1) (foB br p) <:+: 32 :: parB (br (.mk o ⟨#[]⟩ [] [q, p]) 1) (foB br p) := List.infix_cons (List.infix_refl _)
            have h2 : parB (br (.mk o ⟨#[]⟩ [] [q, p]) 1) (foB br p) <:+: 32 :: ((sgW (Fo.mk o ⟨#[]⟩ [] [q, p]).op).data.toList ++ (32 :: parB (br (.mk o ⟨#[]⟩ [] [q, p]) 1) (foB br p))) := List.infix_cons (List.infix_append_of_infix_right h1)
            exact (par_inf _ _).trans (List.infix_append_of_infix_right h2)
      · cases h
    · cases h
end Go.Proofs.YtdapnjnmhkdnpaaDoor.Fb

/-
  A part of a right schema is a right schema.
-/
namespace Go.Proofs.YtdapnjnmhkdnpaaDoor.Fb
open Go Go.RowKit Go.Proofs.YtdapnjnmhkdnpaaDoor.Fm Go.Proofs.YtdapnjnmhkdnpaaDoor.Lx Go.Proofs.YtdapnjnmhkdnpaaDoor.Ps Go.Proofs.YtdapnjnmhkdnpaaDoor.Ft
set_option linter.unusedVariables false
set_option linter.unusedSimpArgs false
theorem w1 {lv : Int} (h1 : 1 ≤ lv) (h : lv ≤ 41) : wrap64 (lv + 1) = lv + 1 := wrap_id (by omega) (by omega)
theorem tm_dn (N : Nat) : ∀ (t : Tm), SizeOf.sizeOf t < N → ∀ (lv : Int), 1 ≤ lv → Tm40 (lv + 1) t → Tm40 lv t := by
  induction N with
  | zero => exact fun t h => absurd h (Nat.not_lt_zero _)
  | succ N ih =>
    intro t hN lv h1 ht x hx
    have h40 := ht.head
    rw [Tm.all_eq] at hx
    rcases List.mem_cons.1 hx with rfl | hx
    · show lv ≤ 40
      omega
    · obtain ⟨u, hu, hx⟩ := List.mem_flatMap.1 hx
      rw [w1 h1 (by omega)] at hx
      have hlt : SizeOf.sizeOf u < SizeOf.sizeOf t := by
        obtain ⟨v, n, a⟩ := t
        have : SizeOf.sizeOf u < SizeOf.sizeOf a := List.sizeOf_lt_of_mem hu
        simp only [Tm.mk.sizeOf_spec]; omega
      exact ih u (by omega) (lv + 1) (by omega) (ht.arg (by omega) hu) x hx
theorem fo_dn {m : Bool} (N : Nat) : ∀ (f : Fo), SizeOf.sizeOf f < N → ∀ (lv : Int), 1 ≤ lv → FoK m (lv + 1) f → FoK m lv f := by
  induction N with
  | zero => exact fun t h => absurd h (Nat.not_lt_zero _)
  | succ N ih =>
    intro f hN lv h1 hf x hx
    obtain ⟨k1, k2, k3, k4⟩ := hf.head
    rw [Fo.all_eq] at hx
    rcases List.mem_cons.1 hx with rfl | hx
    · refine ⟨k1, k2, by show lv ≤ 40; omega, fun t ht => ?_⟩
      have := k4 t ht
      rw [w1 (by omega) (by omega)] at this
      show Tm40 (wrap64 (lv + 1)) t
      rw [w1 h1 (by omega)]
      exact tm_dn _ t (Nat.lt_succ_self _) (lv + 1) (by omega) this
    · obtain ⟨u, hu, hx⟩ := List.mem_flatMap.1 hx
      rw [w1 h1 (by omega)] at hx
      have hlt : SizeOf.sizeOf u < SizeOf.sizeOf f := by
        obtain ⟨o, n, a, s⟩ := f
        have : SizeOf.sizeOf u < SizeOf.sizeOf s := List.sizeOf_lt_of_mem hu
        simp only [Fo.mk.sizeOf_spec]; omega
      exact ih u (by omega) (lv + 1) (by omega) (hf.sub (by omega) hu) x hx
theorem fo_one {m : Bool} {f : Fo} : ∀ (k : Nat), FoK m (1 + (k : Int)) f → FoK m 1 f
  | 0, h => by simpa using h
  | k + 1, h => fo_one k (fo_dn _ f (Nat.lt_succ_self _) _ (by omega) (by have e : (1 : Int) + ((k + 1 : Nat) : Int) = 1 + (k : Int) + 1 := by omega
                                                                          rwa [e] at h))
theorem tm_len (N : Nat) : ∀ (t : Tm), SizeOf.sizeOf t < N → ∀ (a b : Int), (t.all a).length = (t.all b).length := by
  induction N with
  | zero => exact fun t h => absurd h (Nat.not_lt_zero _)
  | succ N ih =>
    intro t hN a b
    rw [Tm.all_eq, Tm.all_eq, List.length_cons, List.length_cons, List.length_flatMap, List.length_flatMap]
    congr 2
    refine List.map_congr_left fun u hu => ih u ?_ _ _
    obtain ⟨v, n, l⟩ := t
    have : SizeOf.sizeOf u < SizeOf.sizeOf l := List.sizeOf_lt_of_mem hu
    simp only [Tm.mk.sizeOf_spec] at hN; omega
theorem nf_ind (N : Nat) : ∀ (f : Fo), SizeOf.sizeOf f < N → ∀ (a b : Int), NF a f = NF b f := by
  induction N with
  | zero => exact fun t h => absurd h (Nat.not_lt_zero _)
  | succ N ih =>
    intro f hN a b
    rw [NF_eq, NF_eq]
    congr 2
    · congr 1
      exact List.map_congr_left fun u hu => tm_len _ u (Nat.lt_succ_self _) _ _
    · refine List.map_congr_left fun u hu => ih u ?_ _ _
      obtain ⟨o, n, l, s⟩ := f
      have : SizeOf.sizeOf u < SizeOf.sizeOf s := List.sizeOf_lt_of_mem hu
      simp only [Fo.mk.sizeOf_spec] at hN; omega
theorem nf_sub {f g : Fo} (lv : Int) (h : g ∈ f.sub) : NF 1 g ≤ NF lv f := by
  rw [NF_eq lv f, nf_ind _ g (Nat.lt_succ_self _) 1 (wrap64 (lv + 1))]
  have : NF (wrap64 (lv + 1)) g ≤ (f.sub.map fun g => NF (wrap64 (lv + 1)) g).sum := by
    generalize f.sub = l at h
    induction l with
    | nil => cases h
    | cons a l ih =>
      rw [List.map_cons, List.sum_cons]
      rcases List.mem_cons.1 h with rfl | h
      · omega
      · have := ih h; omega
  omega
theorem nf_at : ∀ (is : List Int) (f g : Fo), atF f is = some g → NF 1 g ≤ NF 1 f
  | [], f, g, h => by
    rw [atF] at h
    injection h with h
    rw [h]
    exact Nat.le_refl _
  | i :: r, f, g, h => by
    rw [atF] at h
    split at h
    · split at h
      · next p hp =>
        have := nf_at r p g h
        have := nf_sub 1 (List.mem_of_getElem? hp)
        omega
      · cases h
    · cases h
theorem right_fok {m : Bool} {g : Fo} (h : FoK m 1 g) (hn : NF 1 g ≤ 400) : rightB m g = true := by
  unfold rightB fitsB levelsL
  rw [Bool.and_eq_true, Bool.and_eq_true]
  refine ⟨⟨decide_eq_true ?_, ?_⟩, ?_⟩
  · rw [List.length_append, List.length_map, List.length_map]
    unfold NF at hn
    unfold termsL
    omega
  · rw [List.all_eq_true]
    intro x hx
    refine decide_eq_true ?_
    rcases List.mem_append.1 hx with hx | hx
    · obtain ⟨y, hy, rfl⟩ := List.mem_map.1 hx
      exact (h y hy).2.2.1
    · obtain ⟨y, hy, rfl⟩ := List.mem_map.1 hx
      unfold termsL at hy
      obtain ⟨z, hz, hy⟩ := List.mem_flatMap.1 hy
      obtain ⟨t, ht, hy⟩ := List.mem_flatMap.1 hy
      exact (h z hz).2.2.2 t ht y hy
  · unfold allB
    rw [List.all_eq_true]
    exact fun x hx => (h x hx).1
theorem nf_right {m : Bool} {f : Fo} (h : rightB m f = true) : NF 1 f ≤ 400 := by
  unfold rightB fitsB levelsL at h
  rw [Bool.and_eq_true, Bool.and_eq_true] at h
  have := of_decide_eq_true h.1.1
  rw [List.length_append, List.length_map, List.length_map] at this
  unfold NF
  unfold termsL at this
  omega
theorem inside {a b : Bs} (h : b <:+: a) : Lib.contains a b = true := by
  obtain ⟨p, q, rfl⟩ := h
  unfold Lib.contains
  rcases Lib.index_spec (p ++ b ++ q) b with ⟨_, h2⟩ | ⟨i, h1, _⟩
  · have h3 := h2 p.length (by simp only [List.length_append]; omega)
    unfold Lib.occAt at h3
    rw [List.append_assoc, List.drop_left] at h3
    have h4 : b.isPrefixOf (b ++ q) = true := List.isPrefixOf_iff_prefix.2 (List.prefix_append b q)
    rw [h4] at h3
    cases h3
  · rw [h1]
    exact decide_eq_true (by omega)
/-- What FormatPart looks at. -/
theorem part_facts {f g : Fo} {is : List Int} (hf : rightB true f = true) (ho : OpsOk f) (ha : atF f is = some g) :
    rightB true g = true ∧ OpsOk g ∧ Lib.contains (foB brN f) (foB brN g) = true ∧ Lib.contains (foB brB f) (foB brB g) = true ∧ foB brN g ≠ [] ∧ foB brB g ≠ [] := by
  have hk := fok_right hf ho
  obtain ⟨h1, lv, hl, hkg⟩ := foB_part (br := brN) is f g 1 hk (Int.le_refl _) ha
  have h2 := (foB_part (br := brB) is f g 1 hk (Int.le_refl _) ha).1
  have hk1 : FoK true 1 g := fo_one (lv - 1).toNat (by rwa [show 1 + (((lv - 1).toNat : Nat) : Int) = lv by omega])
  have hr := right_fok hk1 (Nat.le_trans (nf_at is f g ha) (nf_right hf))
  exact ⟨hr, fun x hx => (hk1 x hx).2.1, inside h1, inside h2, foB_ne _ g (Nat.lt_succ_self _) 1 hk1 (Int.le_refl _), foB_ne _ g (Nat.lt_succ_self _) 1 hk1 (Int.le_refl _)⟩
end Go.Proofs.YtdapnjnmhkdnpaaDoor.Fb

/-
  strings.Contains, at this program; that its package's variable holds a number.
-/
namespace Go.Proofs.YtdapnjnmhkdnpaaDoor.Fb
open Go Go.Shelf
def lays144_ren : Go.Shelf.Ren := ⟨fun | 144 => 14 | 143 => 35 | 219 => 58 | 217 => 78 | 225 => 79 | 224 => 80 | 267 => 81 | 266 => 96 | 314 => 97 | n => n, fun | 9 => 9 | 4 => 4 | 3 => 3 | 5 => 5 | 46 => 117 | 146 => 127 | 51 => 126 | n => n, fun | 1 => 1 | n => n⟩
theorem lays144 : Go.Proofs.Lays.n144 Tryd.prog lays144_ren := {
  mixed := by kernel_rfl
  f143 := Tryd.func35.trans (congrArg some (by kernel_rfl))
  f144 := Tryd.func14.trans (congrArg some (by kernel_rfl))
  f217 := Tryd.func78.trans (congrArg some (by kernel_rfl))
  f219 := Tryd.func58.trans (congrArg some (by kernel_rfl))
  f224 := Tryd.func80.trans (congrArg some (by kernel_rfl))
  f225 := Tryd.func79.trans (congrArg some (by kernel_rfl))
  f266 := Tryd.func96.trans (congrArg some (by kernel_rfl))
  f267 := Tryd.func81.trans (congrArg some (by kernel_rfl))
  f314 := Tryd.func97.trans (congrArg some (by kernel_rfl))
  t3 := Tryd.underlying3
  a3 := Tryd.isAgg3
  z3 := Tryd.sizeOf3
  v3 := Tryd.zeroValue3
  t4 := Tryd.underlying4
  a4 := Tryd.isAgg4
  z4 := Tryd.sizeOf4
  v4 := Tryd.zeroValue4
  t5 := Tryd.underlying5
  a5 := Tryd.isAgg5
  z5 := Tryd.sizeOf5
  v5 := Tryd.zeroValue5
  t9 := Tryd.underlying9
  a9 := Tryd.isAgg9
  z9 := Tryd.sizeOf9
  v9 := Tryd.zeroValue9
  t46 := Tryd.underlying117
  a46 := Tryd.isAgg117
  z46 := Tryd.sizeOf117
  v46 := Tryd.zeroValue117
  t51 := Tryd.underlying126
  a51 := Tryd.isAgg126
  z51 := Tryd.sizeOf126
  v51 := Tryd.zeroValue126
  t146 := Tryd.underlying127
  a146 := Tryd.isAgg127
  z146 := Tryd.sizeOf127
  v146 := Tryd.zeroValue127
  g1 := by kernel_rfl }
open Go.RowKit Go.Lib in
theorem strings_Contains (s sub : ByteArray) (m : Int) (w : World) (hs : s.size < 4294967281) (hm : w.cell? ⟨1, 0, none⟩ = some (.int .i64 m)) :
    Calls Tryd.prog 14 #[.string s, .string sub] w fun e w' => e = .returned (.bool (Lib.contains s.data.toList sub.data.toList)) ∧ w' = w := Any.strings_Contains lays144 s sub m w hs hm
open Go.RowKit in
/-- A variable of ONE cell of a type of whole numbers holds some number. -/
theorem int_of_shape {P : Program} {w : World} {g : Nat} {t : TypeId} {k : IntKind} {zero : Array Value} (h : w.ShapedOpen P) (hg : g < P.globals.size)
    (h0 : ((begin P (fun _ _ => 0) default).world.heap[g]?).bind Obj.row? = some (zero, t)) (hz : zero.size = 1)
    (hb : P.buildable t = true) (hc : P.cellTypes P.depth t = some [t]) (hu : P.underlying t = some (.int k)) : ∃ m, w.cell? ⟨g, 0, none⟩ = some (.int k m) := by
  obtain ⟨cs, hh, hs, hr⟩ := h.1 g zero t hg h0
  obtain ⟨ts, hts, _, hall⟩ := hr hb
  rw [hc] at hts
  cases hts
  have h1 : 0 < cs.size := by omega
  obtain ⟨u, hu', hok⟩ := hall 0 cs[0] (by simp [h1])
  have : u = t := by simpa using hu'.symm
  subst this
  have hcell : w.cell? ⟨g, 0, none⟩ = some cs[0] := by simp [World.cell?, hh, h1]
  rw [hcell]
  unfold Cell.ok at hok
  rw [hu] at hok
  cases hv : cs[0] <;> rw [hv] at hok <;> first | (simp at hok; done) | (simp at hok; obtain ⟨rfl, _⟩ := hok; exact ⟨_, rfl⟩) | (simp at hok; subst hok; exact ⟨_, rfl⟩)
theorem max_of_shape {w : World} (h : w.ShapedOpen Tryd.prog) : ∃ m, w.cell? ⟨1, 0, none⟩ = some (.int .i64 m) :=
  int_of_shape (t := 3) (zero := #[.int .i64 0]) h (of_decide_eq_true (by kernel_rfl)) (by kernel_rfl) rfl (by kernel_rfl) (by kernel_rfl) Tryd.underlying3
end Go.Proofs.YtdapnjnmhkdnpaaDoor.Fb

/-
  FormatPart's walk: the text of a part stands in the text of the whole.
-/
namespace Go.Proofs.YtdapnjnmhkdnpaaDoor.Fb
open Go Go.RowKit Go.Shelf Go.Proofs.YtdapnjnmhkdnpaaDoor.Fm Go.Proofs.YtdapnjnmhkdnpaaDoor.Lx Go.Proofs.YtdapnjnmhkdnpaaDoor.Ps Go.Proofs.YtdapnjnmhkdnpaaDoor.Ft
set_option linter.unusedVariables false
set_option linter.unusedSimpArgs false
theorem fov_at {dn : Nat} {w : World} : ∀ (is : List Int) (f g : Fo) (v0 v1 v2 v3 : Value), FoV dn w v0 v1 v2 v3 f → atF f is = some g → ∃ u0 u1 u2 u3, FoV dn w u0 u1 u2 u3 g
  | [], f, g, v0, v1, v2, v3, hf, h => by
    rw [atF] at h
    injection h with h
    subst h
    exact ⟨v0, v1, v2, v3, hf⟩
  | i :: r, f, g, v0, v1, v2, v3, hf, h => by
    rw [atF] at h
    split at h
    · split at h
      · next p hp =>
        obtain ⟨⟨a, cap, rfl⟩, _⟩ := hf.sub.form
        obtain ⟨hlt, he⟩ := List.getElem?_eq_some_iff.1 hp
        obtain ⟨_, b, o, _, _, u0, u1, u2, u3, _, _, _, _, hu⟩ := hf.sub.get hlt
        rw [he] at hu
        exact fov_at r p g _ _ _ _ hu h
      · cases h
    · cases h
set_option maxHeartbeats 8000000 in
set_option maxRecDepth 20000 in
theorem inside_c (f : Fo) (is : List Int) (x0 x1 x2 x3 va : Value) (W : World) (hT : RTab W) (hS : STab W) (hM : ∃ m, W.cell? ⟨1, 0, none⟩ = some (.int .i64 m)) (hawk : ∀ w, RTab w → STab w → Calls Tryd.prog 6 #[] w fun e w' => e = .returned (.bool true) ∧ Below w.heap.size w w')
    (hf : FoV W.heap.size W x0 x1 x2 x3 f) (hp : PlV W.heap.size W va is) : Calls Tryd.prog 4 #[.agg #[x0, x1, x2, x3], va] W fun e w' => e = .returned (.bool true) ∧ Below W.heap.size W w' := by
  obtain ⟨mx, hmx⟩ := hM
  have HOP := Lib.hid (fov_opsOk hf)
  have HF := Lib.hid (fun w (h : Below W.heap.size W w) => (⟨AF.below hf h, hT.below h hT.1, hS.below h, (h.cell (World.block_lt_of_cell? W _ hmx)).trans hmx⟩ : AF w x0 x1 x2 x3 f ∧ RTab w ∧ STab w ∧ w.cell? ⟨1, 0, none⟩ = some (.int .i64 mx)))
  have HP := Lib.hid (fun w (h : Below W.heap.size W w) => hp.below h (Nat.le_refl _))
  have HAT0 := Lib.hid (fun w (h : Below W.heap.size W w) => hf.below h (Nat.le_refl _))
  have HAT := Lib.hid (fun w (h : Below W.heap.size W w) g => fov_at is f g _ _ _ _ (hf.below h (Nat.le_refl _)))
  have hb0 : Below W.heap.size W (W.alloc (.cells #[x0, x1, x2, x3] 25)) := (Below.refl _ _).alloc (Nat.le_refl _) _
  obtain ⟨p0, p1, p2, p3, pz⟩ := box4 W x0 x1 x2 x3 25
  have hxf : BxA (W.alloc (.cells #[x0, x1, x2, x3] 25)) W.heap.size x0 x1 x2 x3 := ⟨p0, p1, p2, p3, pz⟩
  obtain ⟨rfl, _, rfl, _, hA, hS1⟩ := hf
  obtain ⟨⟨a1, k1, rfl⟩, _⟩ := hA.form
  obtain ⟨⟨a2, k2, rfl⟩, _⟩ := hS1.form
  obtain ⟨pa, pc, pb, po, rfl, _⟩ := hp
  obtain ⟨ln, hln⟩ : ∃ n, is.length = n := ⟨_, rfl⟩
  rw [hln] at HP ⊢
  have HAW := Lib.hid hawk
  have HALL := Lib.hid (⟨hb0, hxf⟩ : _ ∧ _)
  clear hA hS1 hT hS hawk hb0 hxf p0 p1 p2 p3 pz hmx hln
  go_enter Tryd.func4, Tryd.ntmps4
  go_wp2_with fail
  have hall := HALL.out
  generalize hX : W.alloc (.cells #[.int .u8 f.op, .string f.n, .slice a1 f.args.length k1, .slice a2 f.sub.length k2] 25) = X at hall ⊢
  clear hX HALL
  obtain ⟨hb0, hxf⟩ := hall
  refine (HAW.out X (HF.out X hb0).2.1 (HF.out X hb0).2.2.1).mono ?_
  rintro e w1 ⟨rfl, hb1⟩
  have HB := Lib.hid (hb0.trans (hb1.mono hb0.size))
  have HXF := Lib.hid (hxf.below hb1)
  clear hb0 hb1 hxf
  obtain ⟨c0, c1, c2, c3, cz⟩ := HXF.out
  go_wp2_with fail
  clear c0 c1 c2 c3 cz
  generalize hX : w1.alloc (.cells #[.int .u8 f.op, .string f.n, .slice a1 f.args.length k1, .slice a2 f.sub.length k2] 25) = w2
  have hb : Below w1.heap.size w1 w2 := by rw [← hX]; exact (Below.refl _ _).alloc (Nat.le_refl _) _
  have hc : ∀ j u, [Value.int .u8 f.op, .string f.n, .slice a1 f.args.length k1, .slice a2 f.sub.length k2][j]? = some u → w2.cell? ⟨w1.heap.size, j, none⟩ = some u := fun j u hj => by rw [← hX, World.cell?_alloc_at _ _ _ _ rfl, ← hj]; simp
  have ho : w1.heap.size < w2.heap.size := by rw [← hX]; simp
  replace HB := Lib.hid (HB.out.trans (hb.mono HB.out.size))
  replace HXF := Lib.hid (HXF.out.below hb)
  clear hb
  have hsl := slF_1 ho (HF.out _ HB.out).1 hc
  clear hX hc ho
  refine (small_c [f] _ _ _ hsl (Nat.le_refl _)).mono ?_
  rintro e w3 ⟨rfl, hb⟩
  replace HB := Lib.hid (HB.out.trans (hb.mono HB.out.size))
  replace HXF := Lib.hid (HXF.out.below hb)
  clear hb
  clear hsl
  by_cases hsm : szS 0 [f] ≤ 500
  rotate_left
  · rw [decide_eq_false hsm]
    clear hsm
    obtain ⟨c0, c1, c2, c3, cz⟩ := HXF.out
    go_wp2_with fail
    go_ret
    exact ⟨rfl, HB.out⟩
  rw [decide_eq_true hsm]
  clear hsm
  obtain ⟨c0, c1, c2, c3, cz⟩ := HXF.out
  go_wp2_with fail
  clear c0 c1 c2 c3 cz
  refine (schema_c _ _ _ _ f _ _ (HF.out _ HB.out).1 (Nat.le_refl _) (HF.out _ HB.out).2.1).mono ?_
  rintro e w4 ⟨rfl, hb⟩
  replace HB := Lib.hid (HB.out.trans (hb.mono HB.out.size))
  replace HXF := Lib.hid (HXF.out.below hb)
  clear hb
  by_cases hrf : rightB true f = true
  rotate_left
  · have hrf : rightB true f = false := by simpa using hrf
    rw [hrf]
    clear hrf
    obtain ⟨c0, c1, c2, c3, cz⟩ := HXF.out
    go_wp2_with fail
    go_ret
    exact ⟨rfl, HB.out⟩
  rw [hrf]
  have HRF := Lib.hid hrf
  clear hrf
  by_cases h60 : ln ≤ 60
  rotate_left
  · have h61 : decide ((60 : Int) < (ln : Int)) = true := decide_eq_true (by omega)
    have h62 : (60 : Int) < (ln : Int) := by omega
    have h63 : 60 < ln := by omega
    clear h60
    obtain ⟨c0, c1, c2, c3, cz⟩ := HXF.out
    go_wp2_with fail
    go_ret
    exact ⟨rfl, HB.out⟩
  have h61 : decide ((60 : Int) < (ln : Int)) = false := decide_eq_false (by omega)
  have h62 : ¬ (60 : Int) < (ln : Int) := by omega
  have h63 : ¬ 60 < ln := by omega
  clear h60
  obtain ⟨c0, c1, c2, c3, cz⟩ := HXF.out
  go_wp2_with fail
  clear c0 c1 c2 c3 cz
  clear h61 h62 h63
  obtain ⟨r, hr⟩ : ∃ r, atF f is = r := ⟨_, rfl⟩
  have hat := at_c _ _ _ _ _ f is W.heap.size _ (HAT0.out _ HB.out) (HP.out _ HB.out) HB.out.size
  rw [hr] at hat
  refine hat.mono ?_
  clear hat
  cases r with
  | none =>
    rintro e w5 ⟨rfl, hb⟩
    replace HB := Lib.hid (HB.out.trans (hb.mono HB.out.size))
    clear hb hr
    go_wp2_with fail
    go_ret
    exact ⟨rfl, HB.out.alloc HB.out.size _⟩
  | some g => ?_
  rintro e w5 ⟨b1, l1, b2, l2, rfl, hta, htf, hb⟩
  obtain ⟨y0, y1, y2, y3, hyg⟩ := HAT.out _ HB.out g hr
  have HG := Lib.hid (show AF w5 (.int .u8 g.op) (.string g.n) (.slice b1 g.args.length l1) (.slice b2 g.sub.length l2) g from ⟨rfl, hyg.bd, rfl, hyg.ok, hta.slT (fun b hb => hb.2), htf.slF (fun b hb => hb.2)⟩)
  have hfacts := part_facts HRF.out HOP.out hr
  obtain ⟨hrg, hog, q1, q2, q3, q4⟩ := hfacts
  have HRG := Lib.hid hrg
  have HOG := Lib.hid hog
  have HQ := Lib.hid (⟨q1, q2, bs_ne q3, bs_ne q4⟩ : _ ∧ _ ∧ _ ∧ _)
  clear hrg hog q1 q2 q3 q4 hyg hta htf hr
  replace HB := Lib.hid (HB.out.trans (hb.mono HB.out.size))
  replace HXF := Lib.hid (HXF.out.below hb)
  clear hb
  obtain ⟨c0, c1, c2, c3, cz⟩ := HXF.out
  go_wp2_with fail
  clear c0 c1 c2 c3 cz
  generalize hX : w5.alloc (.cells #[.int .u8 g.op, .string g.n, .slice b1 g.args.length l1, .slice b2 g.sub.length l2] 25) = w6
  have hb : Below w5.heap.size w5 w6 := by rw [← hX]; exact (Below.refl _ _).alloc (Nat.le_refl _) _
  have hc : ∀ j u, [Value.int .u8 g.op, .string g.n, .slice b1 g.args.length l1, .slice b2 g.sub.length l2][j]? = some u → w6.cell? ⟨w5.heap.size, j, none⟩ = some u := fun j u hj => by rw [← hX, World.cell?_alloc_at _ _ _ _ rfl, ← hj]; simp
  have ho : w5.heap.size < w6.heap.size := by rw [← hX]; simp
  have HXG := Lib.hid (show BxA w6 w5.heap.size (.int .u8 g.op) (.string g.n) (.slice b1 g.args.length l1) (.slice b2 g.sub.length l2) from ⟨hc 0 _ rfl, hc 1 _ rfl, hc 2 _ rfl, hc 3 _ rfl, ho⟩)
  replace HG := Lib.hid (HG.out.below hb)
  replace HB := Lib.hid (HB.out.trans (hb.mono HB.out.size))
  replace HXF := Lib.hid (HXF.out.below hb)
  clear hb
  clear hX hc ho
  have hl1 := foB_len HRF.out HOP.out brN
  have hl2 := foB_len HRF.out HOP.out brB
  obtain ⟨ta, eta⟩ : ∃ z, foB brN f = z := ⟨_, rfl⟩
  have Eta := Lib.hid eta
  rw [eta] at HQ hl1
  clear eta
  obtain ⟨tb, etb⟩ : ∃ z, foB brN g = z := ⟨_, rfl⟩
  have Etb := Lib.hid etb
  rw [etb] at HQ
  clear etb
  obtain ⟨tx, etx⟩ : ∃ z, foB brB f = z := ⟨_, rfl⟩
  have Etx := Lib.hid etx
  rw [etx] at HQ hl2
  clear etx
  obtain ⟨ty, ety⟩ : ∃ z, foB brB g = z := ⟨_, rfl⟩
  have Ety := Lib.hid ety
  rw [ety] at HQ
  clear ety
  have HL := Lib.hid (⟨hl1, hl2⟩ : _ ∧ _)
  clear hl1 hl2
  refine (form_c _ _ _ _ f _ _ (HF.out _ HB.out).1 (Nat.le_refl _) (HF.out _ HB.out).2.1 (HF.out _ HB.out).2.2.1).mono ?_
  rintro e w7 ⟨rfl, hb⟩
  rw [HRF.out, TxtR_ok, Eta.out]
  replace HB := Lib.hid (HB.out.trans (hb.mono HB.out.size))
  replace HXF := Lib.hid (HXF.out.below hb)
  replace HXG := Lib.hid (HXG.out.below hb)
  replace HG := Lib.hid (HG.out.below hb)
  clear hb
  obtain ⟨c0, c1, c2, c3, cz⟩ := HXF.out
  obtain ⟨d0, d1, d2, d3, dz⟩ := HXG.out
  go_wp2_with fail
  clear c0 c1 c2 c3 cz d0 d1 d2 d3 dz
  refine (form_c _ _ _ _ g _ _ HG.out (Nat.le_refl _) (HF.out _ HB.out).2.1 (HF.out _ HB.out).2.2.1).mono ?_
  rintro e w8 ⟨rfl, hb⟩
  rw [HRG.out, TxtR_ok, Etb.out]
  replace HB := Lib.hid (HB.out.trans (hb.mono HB.out.size))
  replace HXF := Lib.hid (HXF.out.below hb)
  replace HXG := Lib.hid (HXG.out.below hb)
  replace HG := Lib.hid (HG.out.below hb)
  clear hb
  obtain ⟨c0, c1, c2, c3, cz⟩ := HXF.out
  obtain ⟨d0, d1, d2, d3, dz⟩ := HXG.out
  go_wp2_with fail
  clear c0 c1 c2 c3 cz d0 d1 d2 d3 dz
  refine (full_c _ _ _ _ f _ _ (HF.out _ HB.out).1 (Nat.le_refl _) (HF.out _ HB.out).2.1 (HF.out _ HB.out).2.2.1).mono ?_
  rintro e w9 ⟨rfl, hb⟩
  rw [HRF.out, TxtR_ok, Etx.out]
  replace HB := Lib.hid (HB.out.trans (hb.mono HB.out.size))
  replace HXF := Lib.hid (HXF.out.below hb)
  replace HXG := Lib.hid (HXG.out.below hb)
  replace HG := Lib.hid (HG.out.below hb)
  clear hb
  obtain ⟨c0, c1, c2, c3, cz⟩ := HXF.out
  obtain ⟨d0, d1, d2, d3, dz⟩ := HXG.out
  go_wp2_with fail
  clear c0 c1 c2 c3 cz d0 d1 d2 d3 dz
  refine (full_c _ _ _ _ g _ _ HG.out (Nat.le_refl _) (HF.out _ HB.out).2.1 (HF.out _ HB.out).2.2.1).mono ?_
  rintro e w10 ⟨rfl, hb⟩
  rw [HRG.out, TxtR_ok, Ety.out]
  replace HB := Lib.hid (HB.out.trans (hb.mono HB.out.size))
  replace HXF := Lib.hid (HXF.out.below hb)
  replace HXG := Lib.hid (HXG.out.below hb)
  replace HG := Lib.hid (HG.out.below hb)
  clear hb
  obtain ⟨q1, q2, q3, q4⟩ := HQ.out
  have m1 := str_ne q3
  have m2 := str_ne q4
  have HK := Lib.hid (⟨q1, q2⟩ : _ ∧ _)
  clear q1 q2 q3 q4 HQ
  go_wp2_with fail
  refine (strings_Contains (bs ta) (bs tb) mx _ (by have := HL.out; show ta.length < 4294967281; omega) (HF.out _ HB.out).2.2.2).mono ?_
  rintro e w11 ⟨rfl, rfl⟩
  rw [show Lib.contains (bs ta).data.toList (bs tb).data.toList = true from HK.out.1]
  go_wp2_with fail
  refine (strings_Contains (bs tx) (bs ty) mx _ (by have := HL.out; show tx.length < 4294967281; omega) (HF.out _ HB.out).2.2.2).mono ?_
  rintro e w12 ⟨rfl, rfl⟩
  rw [show Lib.contains (bs tx).data.toList (bs ty).data.toList = true from HK.out.2]
  go_wp2_with fail
  go_ret
  exact ⟨rfl, HB.out⟩
end Go.Proofs.YtdapnjnmhkdnpaaDoor.Fb

/-
  The contract of readers.
-/
import Derived.Test.YtkeckecdhcknhaaDoorLxReaders
import Derived.Deep.MidRow
import Derived.Deep.WholeRow
import Derived.Deep.RegionHeld3
import Derived.Outline
import Derived.Deep.DeepCutAuto
namespace Go.Proofs.YtkeckecdhcknhaaDoor.Lx
open Go Go.RowKit Go.Shelf Go.Proofs.YtkeckecdhcknhaaDoor.Fm
set_option linter.unusedVariables false
set_option linter.unusedSimpArgs false
/-- The readers by their values. -/
def runV (B : Nat) : Value := .func (.func 88) #[] #[.pointer (some ⟨B, 0, none⟩)]
def lonV (B : Nat) : Value := .func (.func 92) #[] #[.pointer (some ⟨B, 0, none⟩)]
def lb (j : Nat) : Bool := ltr (UInt8.ofNat j)
/-- The table's block has the values F. -/
structure Tab (w : World) (n sz : Nat) (F : Nat → Value) (W : World) : Prop where
  b : Below n w W
  c : ∀ j, j < 256 → W.cell? ⟨n + 1, j, none⟩ = some (F j)
  f : ∀ j, j < 256 → W.frozen? ⟨n + 1, j, none⟩ = false
  t : W.there n 0 256
  s : W.heap.size ≤ sz ∧ sz ≤ W.heap.size
theorem Tab.set {w W : World} {n sz : Nat} {F : Nat → Value} (h : Tab w n sz F W) (i : Nat) (hi : i < 256) (v : Value) : Tab w n sz (fun j => if j = i then v else F j) (W.setCell ⟨n + 1, i, none⟩ v) where
  b := h.b.setCell (by simp) v
  c j hj := by
    by_cases e : j = i
    · subst e; rw [if_pos rfl]; exact World.cell?_setCell_same _ _ _ (h.c j hj)
    · rw [if_neg e, World.cell?_setCell_other _ _ _ _ (fun h => e (by injection h with _ h2 _; exact h2.symm))]; exact h.c j hj
  f j hj := by rw [World.frozen?_setCell]; exact h.f j hj
  t := World.there_setCells h.t (n + 1) i [v]
  s := by simpa using h.s
theorem Tab.alloc {w W : World} {n sz : Nat} {F : Nat → Value} (h : Tab w n sz F W) (hn : n + 1 < sz) (o : Obj) : Tab w n (sz + 1) F (W.alloc o) where
  b := h.b.alloc (by have := h.b.size; have := h.s; omega) _
  c j hj := by rw [World.cell?_alloc_lt _ _ _ (by have := h.s; show n + 1 < _; omega)]; exact h.c j hj
  f j hj := by rw [World.frozen?_alloc_past _ _ _ (by have := h.s; show n + 1 < _; omega)]; exact h.f j hj
  t := World.there_alloc h.t o
  s := by simpa using h.s
def F1 (n b j : Nat) : Value := if j < b ∧ lb j = true then runV (n + 2) else .nilFunc
def F2 (n j : Nat) : Value := if j = 63 then runV (n + 3) else F1 n 256 j
/-- The signs, by their first bytes. -/
def sgs : List (Nat × List ByteArray) := [(40, [⟨#[40]⟩]), (41, [⟨#[41]⟩]), (44, [⟨#[44]⟩]), (126, [⟨#[126]⟩]), (38, [⟨#[38]⟩]), (124, [⟨#[124]⟩]), (47, [⟨#[47]⟩]), (93, [⟨#[93]⟩]), (45, [⟨#[45, 62]⟩]), (60, [⟨#[60, 45, 62]⟩, ⟨#[60, 62]⟩]), (91, [⟨#[91, 93]⟩, ⟨#[91]⟩])]
def F3 (n : Nat) : Nat → Nat → Value
  | 0, j => F2 n j
  | q + 1, j => if j = (sgs.getD q (0, [])).1 then lonV (n + 15 + q) else F3 n q j
def rows (l : List ByteArray) : Array Value := (l.map .string).toArray
def chainW (t : TypeId) (W : World) : List (Nat × List ByteArray) → World
  | [] => W
  | x :: r => chainW t (W.alloc (.cells (rows x.2) t)) r
theorem letter_q (q : Nat) (hq : q < 256) (w : World) : Calls Tryd.prog 77 #[.int .u8 (q : Int)] w fun e w' => e = .returned (.bool (lb q)) ∧ w = w' := by
  have h := letter_c (UInt8.ofNat q) w
  have e : ((UInt8.ofNat q).toNat : Int) = (q : Int) := by simp; omega
  rw [e] at h
  exact h
theorem named_at (g B : Nat) (w : World) (h : w.heap.size = B) : Calls Tryd.prog 75 #[.func (.func g) #[] #[]] w fun e w' => e = .returned (.func (.func 88) #[] #[.pointer (some ⟨B, 0, none⟩)]) ∧ w' = w.alloc (.cells #[.func (.func g) #[] #[]] 120) := by
  subst h; exact named_c g w
theorem store_fn (W : World) (p : Addr) (g B : Nat) (v : Value) (hc : W.cell? p = some v) (hf : W.frozen? p = false) : (store p (.func (.func g) #[] #[.pointer (some ⟨B, 0, none⟩)])).run Tryd.prog W = .ok () (W.setCell p (.func (.func g) #[] #[.pointer (some ⟨B, 0, none⟩)])) := by
  rw [run_store _ _ _ _ _ (by rfl), hc]
  simp [hf]
structure L1 (w : World) (i : Value) (W : World) (q : Nat) : Prop where
  i : i = .int .i64 (q : Int)
  l : q ≤ 256
  t : Tab w w.heap.size (w.heap.size + 3) (F1 w.heap.size q) W
  c : W.cell? ⟨w.heap.size + 2, 0, none⟩ = some (.func (.func 76) #[] #[])
structure L2 (w : World) (i : Value) (W : World) (q : Nat) : Prop where
  i : i = .int .i64 (q : Int)
  l : q ≤ 11
  t : Tab w w.heap.size (w.heap.size + 15 + q) (F3 w.heap.size q) W
  c2 : W.cell? ⟨w.heap.size + 2, 0, none⟩ = some (.func (.func 76) #[] #[])
  c3 : W.cell? ⟨w.heap.size + 3, 0, none⟩ = some (.func (.func 78) #[] #[])
  ch : ∀ i, i < 11 → ∀ k x, (rows (sgs.getD i (0, [])).2)[k]? = some x → W.cell? ⟨w.heap.size + 4 + i, k, none⟩ = some x
  lo : ∀ i, i < q → W.cell? ⟨w.heap.size + 15 + i, 0, none⟩ = some (.slice (some ⟨w.heap.size + 4 + i, 0, none⟩) (sgs.getD i (0, [])).2.length (sgs.getD i (0, [])).2.length)
/-- The lists of signs as they are made, one behind the other. -/
theorem chain_size (t : TypeId) : ∀ (l : List (Nat × List ByteArray)) (W : World), (chainW t W l).heap.size = W.heap.size + l.length
  | [], W => rfl
  | x :: r, W => by rw [chainW, chain_size t r]; simp; omega
theorem chain_below (t : TypeId) : ∀ (l : List (Nat × List ByteArray)) (W : World) (n : Nat), n ≤ W.heap.size → Below n W (chainW t W l)
  | [], W, n, _ => Below.refl _ _
  | x :: r, W, n, h => ((Below.refl n W).alloc h _).trans (chain_below t r _ n (by rw [World.size_alloc]; omega))
theorem chain_cell (t : TypeId) : ∀ (l : List (Nat × List ByteArray)) (W : World) (i : Nat), i < l.length → ∀ k x, (rows (l.getD i (0, [])).2)[k]? = some x → (chainW t W l).cell? ⟨W.heap.size + i, k, none⟩ = some x
  | [], W, i, h, _, _, _ => absurd h (Nat.not_lt_zero _)
  | y :: r, W, 0, _, k, x, hx => by
    rw [chainW, (chain_below t r (W.alloc (.cells (rows y.2) t)) _ (Nat.le_refl _)).cell (p := ⟨W.heap.size + 0, k, none⟩) (by simp), World.cell?_alloc_at _ _ _ _ (by simp)]
    simpa using hx
  | y :: r, W, i + 1, h, k, x, hx => by
    have := chain_cell t r (W.alloc (.cells (rows y.2) t)) i (by simpa using h) k x (by simpa using hx)
    rw [World.size_alloc] at this
    rw [chainW, show W.heap.size + (i + 1) = W.heap.size + 1 + i by omega]; exact this
theorem Tab.below {w W W' : World} {n sz sz' : Nat} {F : Nat → Value} (h : Tab w n sz F W) (hn : n + 1 < sz) (hb : Below W.heap.size W W') (hs : W'.heap.size = sz') : Tab w n sz' F W' where
  b := h.b.trans (hb.mono (by have := h.s; omega))
  c j hj := (hb.cell (p := ⟨n + 1, j, none⟩) (by have := h.s; show n + 1 < _; omega)).trans (h.c j hj)
  f j hj := (hb.frozen (p := ⟨n + 1, j, none⟩) (by have := h.s; show n + 1 < _; omega)).trans (h.f j hj)
  t j hj := by
    have := h.t j hj
    have hl : n < W.heap.size := by have := h.s; omega
    rw [hb.cell (p := ⟨n, 0 + j, none⟩) hl, hb.frozen (p := ⟨n, 0 + j, none⟩) hl]; exact this
  s := by omega
theorem chain_rel {w : World} (W : World) {t : TypeId} (ht : Tab w w.heap.size (w.heap.size + 4) (F2 w.heap.size) W) (h2 : W.cell? ⟨w.heap.size + 2, 0, none⟩ = some (.func (.func 76) #[] #[]))
    (h3 : W.cell? ⟨w.heap.size + 3, 0, none⟩ = some (.func (.func 78) #[] #[])) (hR : W.heap.size = w.heap.size + 4) : L2 w (.int .i64 0) (chainW t W sgs) 0 where
  i := rfl
  l := by omega
  t := ht.below (by omega) (chain_below t sgs W _ (Nat.le_refl _)) (by rw [chain_size, hR]; rfl)
  c2 := ((chain_below t sgs W _ (Nat.le_refl _)).cell (p := ⟨w.heap.size + 2, 0, none⟩) (by rw [hR]; show w.heap.size + 2 < _; omega)).trans h2
  c3 := ((chain_below t sgs W _ (Nat.le_refl _)).cell (p := ⟨w.heap.size + 3, 0, none⟩) (by rw [hR]; show w.heap.size + 3 < _; omega)).trans h3
  ch i hi k x hx := by rw [← hR]; exact chain_cell t sgs W i hi k x hx
  lo i hi := absurd hi (Nat.not_lt_zero _)
theorem longest_at (a : Option Addr) (n cap B : Nat) (w : World) (h : w.heap.size = B) : Calls Tryd.prog 79 #[.slice a n cap] w fun e w' => e = .returned (.func (.func 92) #[] #[.pointer (some ⟨B, 0, none⟩)]) ∧ w' = w.alloc (.cells #[.slice a n cap] 46) := by
  subst h; exact longest_c a n cap w
theorem Tab.drew {w W : World} {n sz : Nat} {F : Nat → Value} (h : Tab w n sz F W) : Tab w n sz F W.drew where
  b := h.b.drew
  c j hj := by rw [World.cell?_drew]; exact h.c j hj
  f j hj := by rw [World.frozen?_drew]; exact h.f j hj
  t := by rw [World.there_drew]; exact h.t
  s := h.s
theorem lstep {w wr : World} {q : Nat} (i : Value) (h : L2 w i wr q) (hq : q < 11) (t : TypeId) : L2 w (.int .i64 ((q + 1 : Nat) : Int))
    (((wr.alloc (.cells #[.slice (some ⟨w.heap.size + 4 + q, 0, none⟩) (sgs.getD q (0, [])).2.length (sgs.getD q (0, [])).2.length] t)).drew).setCell ⟨w.heap.size + 1, (sgs.getD q (0, [])).1, none⟩ (lonV (w.heap.size + 15 + q))) (q + 1) := by
  have hs := h.t.s
  have hlt : (sgs.getD q (0, [])).1 < 256 := by
    have : ∀ q, q < 11 → (sgs.getD q (0, [])).1 < 256 := by decide
    exact this q hq
  have hk : ∀ b o, b < w.heap.size + 15 + q → b ≠ w.heap.size + 1 → (((wr.alloc (.cells #[.slice (some ⟨w.heap.size + 4 + q, 0, none⟩) (sgs.getD q (0, [])).2.length (sgs.getD q (0, [])).2.length] t)).drew).setCell ⟨w.heap.size + 1, (sgs.getD q (0, [])).1, none⟩ (lonV (w.heap.size + 15 + q))).cell? ⟨b, o, none⟩ = wr.cell? ⟨b, o, none⟩ := fun b o hb hne => by
    rw [World.cell?_setCell_other _ _ _ _ (fun h => hne (by injection h with h1; exact h1.symm)), World.cell?_drew, World.cell?_alloc_lt _ _ _ (by show b < _; omega)]
  refine ⟨rfl, by omega, ?_, ?_, ?_, ?_, ?_⟩
  · exact ((h.t.alloc (by omega) _).drew).set _ hlt _
  · rw [hk _ _ (by omega) (by omega)]; exact h.c2
  · rw [hk _ _ (by omega) (by omega)]; exact h.c3
  · intro i hi k x hx
    rw [hk _ _ (by omega) (by omega)]; exact h.ch i hi k x hx
  · intro i hi
    rcases Nat.lt_or_ge i q with h1 | h1
    · rw [hk _ _ (by omega) (by omega)]; exact h.lo i h1
    · obtain rfl : i = q := by omega
      rw [World.cell?_setCell_other _ _ _ _ (fun h => by injection h; omega), World.cell?_drew, World.cell?_alloc_at _ _ _ _ (by show w.heap.size + 15 + i = _; omega)]; rfl
theorem store_fn2 (W : World) (p : Addr) (g B : Nat) (hc : (W.cell? p).isSome = true) (hf : W.frozen? p = false) : (store p (.func (.func g) #[] #[.pointer (some ⟨B, 0, none⟩)])).run Tryd.prog W = .ok () (W.setCell p (.func (.func g) #[] #[.pointer (some ⟨B, 0, none⟩)])) := by
  obtain ⟨v, hv⟩ := Option.isSome_iff_exists.1 hc
  exact store_fn W p g B v hv hf
/-- What holds within the loop's drawn statement. -/
structure Kp (wr : World) (n fb : Nat) (W : World) : Prop where
  c : ∀ b o, n + 2 ≤ b → b < wr.heap.size → W.cell? ⟨b, o, none⟩ = wr.cell? ⟨b, o, none⟩
  s : (W.cell? ⟨n + 1, fb, none⟩).isSome = true
  f : W.frozen? ⟨n + 1, fb, none⟩ = false
  z : wr.heap.size ≤ W.heap.size
theorem Kp.drew {wr W : World} {n fb : Nat} (h : Kp wr n fb W) : Kp wr n fb W.drew := ⟨fun b o h1 h2 => by rw [World.cell?_drew]; exact h.c b o h1 h2, by rw [World.cell?_drew]; exact h.s, by rw [World.frozen?_drew]; exact h.f, h.z⟩
theorem Kp.alloc {wr W : World} {n fb : Nat} (h : Kp wr n fb W) (hn : n + 1 < wr.heap.size) (o : Obj) : Kp wr n fb (W.alloc o) :=
  ⟨fun b q h1 h2 => by rw [World.cell?_alloc_lt _ _ _ (by have := h.z; show b < _; omega)]; exact h.c b q h1 h2, by rw [World.cell?_alloc_lt _ _ _ (by have := h.z; show n + 1 < _; omega)]; exact h.s,
   by rw [World.frozen?_alloc_past _ _ _ (by have := h.z; show n + 1 < _; omega)]; exact h.f, by rw [World.size_alloc]; have := h.z; omega⟩
theorem Kp.set {wr W : World} {n fb : Nat} (h : Kp wr n fb W) (v : Value) : Kp wr n fb (W.setCell ⟨n + 1, fb, none⟩ v) :=
  ⟨fun b q h1 h2 => by rw [World.cell?_setCell_other _ _ _ _ (fun h => by injection h; omega)]; exact h.c b q h1 h2, World.isSome_setCells (n + 1) [v] fb W _ h.s,
   by rw [World.frozen?_setCell]; exact h.f, by have := h.z; simpa using this⟩
theorem index_sl (cs : Array Value) (q : Nat) (a : Option Addr) (n cap : Nat) (W : World) (hq : q < 11) (h : cs[q]? = some (.slice a n cap)) : (Instr.index 121 (.agg cs) (.int .i64 (q : Int))).run Tryd.prog W = .ok (.slice a n cap) W := by
  have h1 : (0 : Int) ≤ (q : Int) ∧ (q : Int) < 11 := by omega
  have hl : q < cs.size := (Array.getElem?_eq_some_iff.1 h).1
  have hv : cs[q] = .slice a n cap := (Array.getElem?_eq_some_iff.1 h).2
  simp [Instr.index, asIntOf, run_underlying Tryd.underlying121, part, h1, Tryd.sizeOf46, Tryd.isAgg46, hl, hv]
  intro h; omega
/-- The readers, by the bytes with which their tokens begin. -/
structure Rdr (W : World) (lo hi : Nat) (T : List Value) : Prop where
  n : T.length = 256
  run : ∀ j, j < 256 → lb j = true → ∃ B, T[j]? = some (runV B) ∧ lo ≤ B ∧ B < hi ∧ W.cell? ⟨B, 0, none⟩ = some (.func (.func 76) #[] #[])
  mark : ∃ B, T[63]? = some (runV B) ∧ lo ≤ B ∧ B < hi ∧ W.cell? ⟨B, 0, none⟩ = some (.func (.func 78) #[] #[])
  sign : ∀ q, q < 11 → ∃ B R, T[(sgs.getD q (0, [])).1]? = some (lonV B) ∧ lo ≤ B ∧ B < hi ∧ lo ≤ R ∧ R < hi ∧ W.cell? ⟨B, 0, none⟩ = some (.slice (some ⟨R, 0, none⟩) (sgs.getD q (0, [])).2.length (sgs.getD q (0, [])).2.length) ∧
    ∀ k x, (rows (sgs.getD q (0, [])).2)[k]? = some x → W.cell? ⟨R, k, none⟩ = some x
  nil : ∀ j, j < 256 → lb j = false → j ≠ 63 → (∀ q, q < 11 → (sgs.getD q (0, [])).1 ≠ j) → T[j]? = some .nilFunc
theorem below_setCells {n b : Nat} {w : World} (hb : n ≤ b) : ∀ (vs : List Value) (o : Nat) {W : World}, Below n w W → Below n w (W.setCells b o vs)
  | [], _, _, h => h
  | v :: r, o, W, h => by rw [World.setCells]; exact below_setCells hb r (o + 1) (h.setCell hb v)
theorem size_setCells (b : Nat) : ∀ (vs : List Value) (o : Nat) (W : World), (W.setCells b o vs).heap.size = W.heap.size
  | [], _, _ => rfl
  | v :: r, o, W => by rw [World.setCells, size_setCells b r]; simp
theorem f3_other (n : Nat) (j : Nat) : ∀ q, (∀ i, i < q → (sgs.getD i (0, [])).1 ≠ j) → F3 n q j = F2 n j
  | 0, _ => rfl
  | q + 1, h => by rw [F3, if_neg (fun e => h q (by omega) e.symm), f3_other n j q (fun i hi => h i (by omega))]
theorem f3_same (n : Nat) {i : Nat} : ∀ q, i < q → q ≤ 11 → F3 n q (sgs.getD i (0, [])).1 = lonV (n + 15 + i)
  | q + 1, h, h2 => by
    rw [F3]
    by_cases e : i = q
    · subst e; rw [if_pos rfl]
    · have hd : ∀ a, a < 11 → ∀ b, b < 11 → (sgs.getD a (0, [])).1 = (sgs.getD b (0, [])).1 → a = b := by decide
      rw [if_neg (fun h3 => e (hd i (by omega) q (by omega) h3))]
      exact f3_same n q (by omega) (by omega)
set_option maxRecDepth 20000 in
theorem letters_apart : ∀ j, j < 256 → lb j = true → j ≠ 63 ∧ ∀ q, q < 11 → (sgs.getD q (0, [])).1 ≠ j := by decide
def F3L (n : Nat) : List Value := (List.range 256).map (F3 n 11)
theorem f3l_get (n j : Nat) (hj : j < 256) : (F3L n)[j]? = some (F3 n 11 j) := by unfold F3L; simp [hj]
theorem rdr_of {w wr : World} {i : Value} (h : L2 w i wr 11) : Rdr (wr.setCells w.heap.size 0 (F3L w.heap.size)) w.heap.size (wr.setCells w.heap.size 0 (F3L w.heap.size)).heap.size (F3L w.heap.size) := by
  have hs : (wr.setCells w.heap.size 0 (F3L w.heap.size)).heap.size = w.heap.size + 26 := by rw [size_setCells]; have := h.t.s; omega
  have hk : ∀ b o, b ≠ w.heap.size → (wr.setCells w.heap.size 0 (F3L w.heap.size)).cell? ⟨b, o, none⟩ = wr.cell? ⟨b, o, none⟩ := fun b o hb => World.cell?_setCells_out _ _ _ _ _ (fun h => absurd h hb)
  have hfb : ∀ q, q < 11 → (sgs.getD q (0, [])).1 < 256 ∧ (sgs.getD q (0, [])).1 ≠ 63 := by decide
  rw [hs]
  refine ⟨by unfold F3L; simp, fun j hj hl => ?_, ?_, fun q hq => ?_, fun j hj hl h63 hq => ?_⟩
  · obtain ⟨a1, a2⟩ := letters_apart j hj hl
    refine ⟨w.heap.size + 2, ?_, by omega, by omega, by rw [hk _ _ (by omega)]; exact h.c2⟩
    rw [f3l_get _ _ hj, f3_other _ _ _ a2, F2, if_neg a1, F1, if_pos ⟨hj, hl⟩]
  · refine ⟨w.heap.size + 3, ?_, by omega, by omega, by rw [hk _ _ (by omega)]; exact h.c3⟩
    rw [f3l_get _ _ (by decide), f3_other _ _ _ (fun q hq => (hfb q hq).2), F2, if_pos rfl]
  · refine ⟨w.heap.size + 15 + q, w.heap.size + 4 + q, ?_, by omega, by omega, by omega, by omega, by rw [hk _ _ (by omega)]; exact h.lo q hq, fun k x hx => by rw [hk _ _ (by omega)]; exact h.ch q hq k x hx⟩
    rw [f3l_get _ _ (hfb q hq).1, f3_same _ _ hq (Nat.le_refl _)]
  · rw [f3l_get _ _ hj, f3_other _ _ _ hq, F2, if_neg h63, F1, if_neg (by rw [hl]; simp)]
theorem f3l_one (n : Nat) : ∀ v ∈ F3L n, v.oneCell' = true := by
  intro v hv
  unfold F3L at hv
  obtain ⟨j, _, rfl⟩ := List.mem_map.1 hv
  have : ∀ q, (F3 n q j).oneCell' = true := by
    intro q
    induction q with
    | zero => simp only [F3, F2, F1]; split <;> (try split) <;> rfl
    | succ q ih => simp only [F3]; split <;> first | rfl | exact ih
  exact this 11
theorem results_arr {tmps : Array Value} {W : World} {b : Nat} {T : List Value} (hr : W.rangeAt b 0 T) (hi : (Tryd.prog.info? 103).map (·.size) = some T.length) (h0 : tmps.getD 0 undef = .pointer (some ⟨b, 0, none⟩)) :
    (results Tryd.f60 tmps).run Tryd.prog W = .ok (.agg T.toArray) W := by
  have hl := run_loadVar_mid W b 0 103 T _ hr Tryd.underlying103 rfl hi
  have h1 := h0
  rw [Array.getD_eq_getD_getElem?] at h1
  simp only [results, Tryd.results60]
  simp [h1, hl, asAddr]
def RdrP (w : World) (e : Ending) (w' : World) : Prop := ∃ T, e = .returned (.agg T.toArray) ∧ Below w.heap.size w w' ∧ Rdr w' w.heap.size w'.heap.size T
set_option maxHeartbeats 1000000 in
set_option maxRecDepth 20000 in
theorem readers_c (w : World) : Calls Tryd.prog 60 #[] w (RdrP w) := by
  obtain ⟨Z, hZ, hZs, hZn⟩ : ∃ Z : Array Value, (Tryd.prog.info? 103).map (fun i => (i.zero, i.size)) = some (some (.agg Z), 256) ∧ Z.size = 256 ∧ ∀ j, j < 256 → Z[j]? = some .nilFunc :=
    ⟨Array.replicate 256 .nilFunc, by kernel_rfl, by simp, fun j hj => by simp [hj]⟩
  have hz := (zero_of_info hZ).1
  have HI := Lib.hid (zero_of_info hZ).2
  have HZ := Lib.hid hZn
  have HS := Lib.hid hZs
  clear hZ hZn hZs
  have hcz : ∀ (W : World) (t : TypeId) (j : Nat), j < 256 → (W.alloc (.cells Z t)).cell? ⟨W.heap.size, j, none⟩ = some .nilFunc := fun W t j hj => by
    rw [World.cell?_alloc_at _ _ _ _ rfl]; exact HZ.out j hj
  have h0 : Tab w w.heap.size (w.heap.size + 3) (F1 w.heap.size 0) (((w.alloc (.cells Z 103)).alloc (.cells Z 103)).alloc (.cells #[.func (.func 76) #[] #[]] 120)) := by
    refine Tab.alloc (sz := w.heap.size + 2) ⟨((Below.refl _ w).alloc (Nat.le_refl _) _).alloc (by simp) _, fun j hj => ?_, fun j hj => ?_, fun j hj => ⟨?_, ?_⟩, by simp⟩ (by omega) _
    · have := hcz (w.alloc (.cells Z 103)) 103 j hj
      rw [World.size_alloc] at this
      rw [this]; unfold F1; rw [if_neg (by omega)]
    · rw [World.frozen?_alloc_at _ _ _ _ (by simp)]
    · rw [World.cell?_alloc_lt _ _ _ (by simp), Nat.zero_add, hcz w _ j hj]; rfl
    · rw [World.frozen?_alloc_past _ _ _ (by simp), World.frozen?_alloc_at _ _ _ _ rfl]
  have H0 := Lib.hid h0
  have H1 := Lib.hid (show (((w.alloc (.cells Z 103)).alloc (.cells Z 103)).alloc (.cells #[.func (.func 76) #[] #[]] 120)).cell? ⟨w.heap.size + 2, 0, none⟩ = some (.func (.func 76) #[] #[]) by rw [World.cell?_alloc_at _ _ _ _ (by simp)]; rfl)
  clear hcz h0
  go_enter Tryd.func60, Tryd.ntmps60
  go_wp2_with (go_at_call 75; refine (named_c _ _).mono ?_; rintro e w' ⟨rfl, rfl⟩)
  go_loopw [7] (fun i W => ∃ q, L1 w i W q) (fun i _ => 256 - (intOf i).toNat)
  case atStart => exact ⟨0, rfl, by omega, H0.out, H1.out⟩
  case round =>
    clear H0 H1
    obtain ⟨q, rfl, hq, ht, hcm⟩ := hrel
    have HT := Lib.hid ht
    by_cases hlt : q < 256
    · have hl := fun w => letter_q q hlt w
      have hc := ht.c q hlt
      have hf := ht.f q hlt
      have HF := Lib.hid hcm
      have hst := store_fn wr _ 88 (w.heap.size + 1 + 1) _ hc hf
      clear hc hf
      cases hb : lb q
      · rw [hb] at hl
        have HL := Lib.hid hl
        have HB := Lib.hid hb
        clear hl hb ht hcm
        go_wp2_with (go_at_call 77; refine (HL.out _).mono ?_; rintro e w' ⟨rfl, rfl⟩)
        refine ⟨⟨q + 1, by go_num, by omega, ?_, HF.out⟩, by simp [intOf]; omega⟩
        have e : F1 w.heap.size (q + 1) = F1 w.heap.size q := by
          funext j; unfold F1
          by_cases e : j = q
          · subst e; rw [HB.out]; simp
          · have : (j < q + 1) ↔ (j < q) := by omega
            simp only [this]
        rw [e]; exact HT.out
      · rw [hb] at hl
        have HL := Lib.hid hl
        have HB := Lib.hid hb
        clear hl hb ht hcm
        go_wp2_with (go_at_call 77; refine (HL.out _).mono ?_; rintro e w' ⟨rfl, rfl⟩)
        refine ⟨⟨q + 1, by go_num, by omega, ?_, ?_⟩, by simp [intOf]; omega⟩
        · have h2 := HT.out.set q hlt (runV (w.heap.size + 2))
          have e : F1 w.heap.size (q + 1) = fun j => if j = q then runV (w.heap.size + 2) else F1 w.heap.size q j := by
            funext j; unfold F1
            by_cases e : j = q
            · subst e; rw [HB.out]; simp
            · have : (j < q + 1) ↔ (j < q) := by omega
              simp only [this, if_neg e]
          rw [e]; exact h2
        · rw [World.cell?_setCell_other _ _ _ _ (fun h => by injection h; omega)]; exact HF.out
    · obtain rfl : q = 256 := by omega
      have HS3 := Lib.hid (show wr.heap.size = w.heap.size + 3 by have := ht.s; omega)
      have h2 := ht.alloc (by omega) (.cells #[.func (.func 78) #[] #[]] 120)
      have g2 : (wr.alloc (.cells #[.func (.func 78) #[] #[]] 120)).cell? ⟨w.heap.size + 2, 0, none⟩ = some (.func (.func 76) #[] #[]) := by
        rw [World.cell?_alloc_lt _ _ _ (by rw [HS3.out]; simp)]; exact hcm
      have g3 : (wr.alloc (.cells #[.func (.func 78) #[] #[]] 120)).cell? ⟨w.heap.size + 3, 0, none⟩ = some (.func (.func 78) #[] #[]) := by
        rw [World.cell?_alloc_at _ _ _ _ HS3.out.symm]; rfl
      have HT2 := Lib.hid h2
      have HG2 := Lib.hid g2
      have HG3 := Lib.hid g3
      clear ht HT h2 g2 g3 hcm
      go_wp2_with fail
      refine (named_at _ _ _ HS3.out).mono ?_
      rintro e w' ⟨rfl, hw'⟩
      rw [← hw'] at HT2 HG2 HG3
      clear hw' HS3
      have hc63 := HT2.out.c 63 (by decide)
      have hf63 := HT2.out.f 63 (by decide)
      have hst := store_fn w' _ 88 (w.heap.size + 3) _ hc63 hf63
      clear hc63 hf63
      go_upto_region 10 with (fail)
      have t3 : Tab w w.heap.size (w.heap.size + 4) (F2 w.heap.size) (w'.setCell ⟨w.heap.size + 1, 63, none⟩ (runV (w.heap.size + 3))) := HT2.out.set 63 (by decide) _
      have g2 : (w'.setCell ⟨w.heap.size + 1, 63, none⟩ (runV (w.heap.size + 3))).cell? ⟨w.heap.size + 2, 0, none⟩ = some (.func (.func 76) #[] #[]) := by
        rw [World.cell?_setCell_other _ _ _ _ (fun h => by injection h; omega)]; exact HG2.out
      have g3 : (w'.setCell ⟨w.heap.size + 1, 63, none⟩ (runV (w.heap.size + 3))).cell? ⟨w.heap.size + 3, 0, none⟩ = some (.func (.func 78) #[] #[]) := by
        rw [World.cell?_setCell_other _ _ _ _ (fun h => by injection h; omega)]; exact HG3.out
      have T3 := Lib.hid t3
      have G2 := Lib.hid g2
      have G3 := Lib.hid g3
      change Hid (Tab w w.heap.size (w.heap.size + 4) (F2 w.heap.size) (w'.setCell ⟨w.heap.size + 1, 63, none⟩ (.func (.func 88) #[] #[.pointer (some ⟨w.heap.size + 3, 0, none⟩)]))) at T3
      change Hid ((w'.setCell ⟨w.heap.size + 1, 63, none⟩ (.func (.func 88) #[] #[.pointer (some ⟨w.heap.size + 3, 0, none⟩)])).cell? ⟨w.heap.size + 2, 0, none⟩ = some (.func (.func 76) #[] #[])) at G2
      change Hid ((w'.setCell ⟨w.heap.size + 1, 63, none⟩ (.func (.func 88) #[] #[.pointer (some ⟨w.heap.size + 3, 0, none⟩)])).cell? ⟨w.heap.size + 3, 0, none⟩ = some (.func (.func 78) #[] #[])) at G3
      clear t3 g2 g3 HT2 HG2 HG3 hst
      generalize w'.setCell ⟨w.heap.size + 1, 63, none⟩ (.func (.func 88) #[] #[.pointer (some ⟨w.heap.size + 3, 0, none⟩)]) = W3 at T3 G2 G3 ⊢
      have hR : W3.heap.size = w.heap.size + 4 := by have := T3.out.s; omega
      go_wp2_with fail
      go_loopw [31] (fun i W => ∃ q, L2 w i W q) (fun i _ => 11 - (intOf i).toNat)
      case atStart => exact ⟨0, chain_rel W3 T3.out G2.out G3.out hR⟩
      case round =>
      clear T3 G2 G3 hR
      obtain ⟨q, hrel⟩ := hrel
      obtain rfl := hrel.i
      have hq := hrel.l
      have hcase : q = 0 ∨ q = 1 ∨ q = 2 ∨ q = 3 ∨ q = 4 ∨ q = 5 ∨ q = 6 ∨ q = 7 ∨ q = 8 ∨ q = 9 ∨ q = 10 ∨ q = 11 := by omega
      clear hq
      rcases hcase with rfl | rfl | rfl | rfl | rfl | rfl | rfl | rfl | rfl | rfl | rfl | rfl
      · have c0 : wr.cell? ⟨w.heap.size + 4, 0, none⟩ = some (.string ⟨#[40]⟩) := hrel.ch 0 (by decide) 0 _ rfl
        have kp : Kp wr w.heap.size 40 wr := ⟨fun _ _ _ _ => rfl, by rw [hrel.t.c 40 (by decide)]; rfl, hrel.t.f 40 (by decide), Nat.le_refl _⟩
        have hsz : wr.heap.size = w.heap.size + 15 + 0 := by have := hrel.t.s; omega
        have HL := Lib.hid (longest_at (some ⟨w.heap.size + 4, 0, none⟩) 1 1 (w.heap.size + 15 + 0))
        have kp2 := (kp.alloc (by omega) (.cells #[.slice (some ⟨w.heap.size + 4, 0, none⟩) 1 1] 46)).drew
        have hst := store_fn2 _ ⟨w.heap.size + 1, 40, none⟩ 92 (w.heap.size + 15 + 0) kp2.s kp2.f
        clear kp2
        have KP := Lib.hid kp
        have hix : ∀ W, (Instr.index 121 (.agg #[.slice (some ⟨w.heap.size + 4, 0, none⟩) 1 1, .slice (some ⟨w.heap.size + 4 + 1, 0, none⟩) 1 1, .slice (some ⟨w.heap.size + 4 + 1 + 1, 0, none⟩) 1 1, .slice (some ⟨w.heap.size + 4 + 1 + 1 + 1, 0, none⟩) 1 1, .slice (some ⟨w.heap.size + 4 + 1 + 1 + 1 + 1, 0, none⟩) 1 1, .slice (some ⟨w.heap.size + 4 + 1 + 1 + 1 + 1 + 1, 0, none⟩) 1 1, .slice (some ⟨w.heap.size + 4 + 1 + 1 + 1 + 1 + 1 + 1, 0, none⟩) 1 1, .slice (some ⟨w.heap.size + 4 + 1 + 1 + 1 + 1 + 1 + 1 + 1, 0, none⟩) 1 1, .slice (some ⟨w.heap.size + 4 + 1 + 1 + 1 + 1 + 1 + 1 + 1 + 1, 0, none⟩) 1 1, .slice (some ⟨w.heap.size + 4 + 1 + 1 + 1 + 1 + 1 + 1 + 1 + 1 + 1, 0, none⟩) 2 2, .slice (some ⟨w.heap.size + 4 + 1 + 1 + 1 + 1 + 1 + 1 + 1 + 1 + 1 + 1, 0, none⟩) 2 2]) (.int .i64 0)).run Tryd.prog W = .ok (.slice (some ⟨w.heap.size + 4, 0, none⟩) 1 1) W := fun W => index_sl _ 0 _ _ _ W (by decide) rfl
        have hby : ∀ h : 0 < (⟨#[40]⟩ : ByteArray).size, ((⟨#[40]⟩ : ByteArray)[0]'h).toNat = 40 := fun _ => rfl
        have HREL := Lib.hid hrel
        have hlt0 : w.heap.size + 15 ≤ wr.heap.size := by omega
        have HSZ := Lib.hid hsz
        clear hrel hsz
        have HK := Lib.hid (show ∀ W, Kp wr w.heap.size 40 W → _ from fun W (h : Kp wr w.heap.size 40 W) => And.intro ((h.c (w.heap.size + 4) 0 (by omega) (by omega)).trans c0) (And.intro h.s (And.intro h.f h)))
        clear kp
        go_wp2_with fail
        go_region_held3 (fun w' => w'.cell? ⟨w.heap.size + 4, 0, none⟩ = some (.string ⟨#[40]⟩) ∧ (w'.cell? ⟨w.heap.size + 1, 40, none⟩).isSome = true ∧ w'.frozen? ⟨w.heap.size + 1, 40, none⟩ = false ∧ Kp wr w.heap.size 40 w')
          ((refine HK.out _ ?_; repeat (first | assumption | exact KP.out | refine Kp.drew ?_ | refine Kp.alloc ?_ (by omega) _ | refine Kp.set ?_ _)))
          ((go_at_call 79; refine (HL.out _ ?_).mono ?_; (simp [HSZ.out]); rintro e w1 ⟨rfl, rfl⟩))
        all_goals (first | done | (clear hst hix hby c0 HK KP))
        all_goals (first | done | (go_wp2_with fail))
        all_goals
          exact ⟨⟨0 + 1, lstep _ HREL.out (by decide) _⟩, by simp [intOf]⟩
      · have c0 : wr.cell? ⟨w.heap.size + 4 + 1, 0, none⟩ = some (.string ⟨#[41]⟩) := hrel.ch 1 (by decide) 0 _ rfl
        have kp : Kp wr w.heap.size 41 wr := ⟨fun _ _ _ _ => rfl, by rw [hrel.t.c 41 (by decide)]; rfl, hrel.t.f 41 (by decide), Nat.le_refl _⟩
        have hsz : wr.heap.size = w.heap.size + 15 + 1 := by have := hrel.t.s; omega
        have HL := Lib.hid (longest_at (some ⟨w.heap.size + 4 + 1, 0, none⟩) 1 1 (w.heap.size + 15 + 1))
        have kp2 := (kp.alloc (by omega) (.cells #[.slice (some ⟨w.heap.size + 4 + 1, 0, none⟩) 1 1] 46)).drew
        have hst := store_fn2 _ ⟨w.heap.size + 1, 41, none⟩ 92 (w.heap.size + 15 + 1) kp2.s kp2.f
        clear kp2
        have KP := Lib.hid kp
        have hix : ∀ W, (Instr.index 121 (.agg #[.slice (some ⟨w.heap.size + 4, 0, none⟩) 1 1, .slice (some ⟨w.heap.size + 4 + 1, 0, none⟩) 1 1, .slice (some ⟨w.heap.size + 4 + 1 + 1, 0, none⟩) 1 1, .slice (some ⟨w.heap.size + 4 + 1 + 1 + 1, 0, none⟩) 1 1, .slice (some ⟨w.heap.size + 4 + 1 + 1 + 1 + 1, 0, none⟩) 1 1, .slice (some ⟨w.heap.size + 4 + 1 + 1 + 1 + 1 + 1, 0, none⟩) 1 1, .slice (some ⟨w.heap.size + 4 + 1 + 1 + 1 + 1 + 1 + 1, 0, none⟩) 1 1, .slice (some ⟨w.heap.size + 4 + 1 + 1 + 1 + 1 + 1 + 1 + 1, 0, none⟩) 1 1, .slice (some ⟨w.heap.size + 4 + 1 + 1 + 1 + 1 + 1 + 1 + 1 + 1, 0, none⟩) 1 1, .slice (some ⟨w.heap.size + 4 + 1 + 1 + 1 + 1 + 1 + 1 + 1 + 1 + 1, 0, none⟩) 2 2, .slice (some ⟨w.heap.size + 4 + 1 + 1 + 1 + 1 + 1 + 1 + 1 + 1 + 1 + 1, 0, none⟩) 2 2]) (.int .i64 1)).run Tryd.prog W = .ok (.slice (some ⟨w.heap.size + 4 + 1, 0, none⟩) 1 1) W := fun W => index_sl _ 1 _ _ _ W (by decide) rfl
        have hby : ∀ h : 0 < (⟨#[41]⟩ : ByteArray).size, ((⟨#[41]⟩ : ByteArray)[0]'h).toNat = 41 := fun _ => rfl
        have HREL := Lib.hid hrel
        have hlt0 : w.heap.size + 15 ≤ wr.heap.size := by omega
        have HSZ := Lib.hid hsz
        clear hrel hsz
        have HK := Lib.hid (show ∀ W, Kp wr w.heap.size 41 W → _ from fun W (h : Kp wr w.heap.size 41 W) => And.intro ((h.c (w.heap.size + 4 + 1) 0 (by omega) (by omega)).trans c0) (And.intro h.s (And.intro h.f h)))
        clear kp
        go_wp2_with fail
        go_region_held3 (fun w' => w'.cell? ⟨w.heap.size + 4 + 1, 0, none⟩ = some (.string ⟨#[41]⟩) ∧ (w'.cell? ⟨w.heap.size + 1, 41, none⟩).isSome = true ∧ w'.frozen? ⟨w.heap.size + 1, 41, none⟩ = false ∧ Kp wr w.heap.size 41 w')
          ((refine HK.out _ ?_; repeat (first | assumption | exact KP.out | refine Kp.drew ?_ | refine Kp.alloc ?_ (by omega) _ | refine Kp.set ?_ _)))
          ((go_at_call 79; refine (HL.out _ ?_).mono ?_; (simp [HSZ.out]); rintro e w1 ⟨rfl, rfl⟩))
        all_goals (first | done | (clear hst hix hby c0 HK KP))
        all_goals (first | done | (go_wp2_with fail))
        all_goals
          exact ⟨⟨1 + 1, lstep _ HREL.out (by decide) _⟩, by simp [intOf]⟩
      · have c0 : wr.cell? ⟨w.heap.size + 4 + 1 + 1, 0, none⟩ = some (.string ⟨#[44]⟩) := hrel.ch 2 (by decide) 0 _ rfl
        have kp : Kp wr w.heap.size 44 wr := ⟨fun _ _ _ _ => rfl, by rw [hrel.t.c 44 (by decide)]; rfl, hrel.t.f 44 (by decide), Nat.le_refl _⟩
        have hsz : wr.heap.size = w.heap.size + 15 + 2 := by have := hrel.t.s; omega
        have HL := Lib.hid (longest_at (some ⟨w.heap.size + 4 + 1 + 1, 0, none⟩) 1 1 (w.heap.size + 15 + 2))
        have kp2 := (kp.alloc (by omega) (.cells #[.slice (some ⟨w.heap.size + 4 + 1 + 1, 0, none⟩) 1 1] 46)).drew
        have hst := store_fn2 _ ⟨w.heap.size + 1, 44, none⟩ 92 (w.heap.size + 15 + 2) kp2.s kp2.f
        clear kp2
        have KP := Lib.hid kp
        have hix : ∀ W, (Instr.index 121 (.agg #[.slice (some ⟨w.heap.size + 4, 0, none⟩) 1 1, .slice (some ⟨w.heap.size + 4 + 1, 0, none⟩) 1 1, .slice (some ⟨w.heap.size + 4 + 1 + 1, 0, none⟩) 1 1, .slice (some ⟨w.heap.size + 4 + 1 + 1 + 1, 0, none⟩) 1 1, .slice (some ⟨w.heap.size + 4 + 1 + 1 + 1 + 1, 0, none⟩) 1 1, .slice (some ⟨w.heap.size + 4 + 1 + 1 + 1 + 1 + 1, 0, none⟩) 1 1, .slice (some ⟨w.heap.size + 4 + 1 + 1 + 1 + 1 + 1 + 1, 0, none⟩) 1 1, .slice (some ⟨w.heap.size + 4 + 1 + 1 + 1 + 1 + 1 + 1 + 1, 0, none⟩) 1 1, .slice (some ⟨w.heap.size + 4 + 1 + 1 + 1 + 1 + 1 + 1 + 1 + 1, 0, none⟩) 1 1, .slice (some ⟨w.heap.size + 4 + 1 + 1 + 1 + 1 + 1 + 1 + 1 + 1 + 1, 0, none⟩) 2 2, .slice (some ⟨w.heap.size + 4 + 1 + 1 + 1 + 1 + 1 + 1 + 1 + 1 + 1 + 1, 0, none⟩) 2 2]) (.int .i64 2)).run Tryd.prog W = .ok (.slice (some ⟨w.heap.size + 4 + 1 + 1, 0, none⟩) 1 1) W := fun W => index_sl _ 2 _ _ _ W (by decide) rfl
        have hby : ∀ h : 0 < (⟨#[44]⟩ : ByteArray).size, ((⟨#[44]⟩ : ByteArray)[0]'h).toNat = 44 := fun _ => rfl
        have HREL := Lib.hid hrel
        have hlt0 : w.heap.size + 15 ≤ wr.heap.size := by omega
        have HSZ := Lib.hid hsz
        clear hrel hsz
        have HK := Lib.hid (show ∀ W, Kp wr w.heap.size 44 W → _ from fun W (h : Kp wr w.heap.size 44 W) => And.intro ((h.c (w.heap.size + 4 + 1 + 1) 0 (by omega) (by omega)).trans c0) (And.intro h.s (And.intro h.f h)))
        clear kp
        go_wp2_with fail
        go_region_held3 (fun w' => w'.cell? ⟨w.heap.size + 4 + 1 + 1, 0, none⟩ = some (.string ⟨#[44]⟩) ∧ (w'.cell? ⟨w.heap.size + 1, 44, none⟩).isSome = true ∧ w'.frozen? ⟨w.heap.size + 1, 44, none⟩ = false ∧ Kp wr w.heap.size 44 w')
          ((refine HK.out _ ?_; repeat (first | assumption | exact KP.out | refine Kp.drew ?_ | refine Kp.alloc ?_ (by omega) _ | refine Kp.set ?_ _)))
          ((go_at_call 79; refine (HL.out _ ?_).mono ?_; (simp [HSZ.out]); rintro e w1 ⟨rfl, rfl⟩))
        all_goals (first | done | (clear hst hix hby c0 HK KP))
        all_goals (first | done | (go_wp2_with fail))
        all_goals
          exact ⟨⟨2 + 1, lstep _ HREL.out (by decide) _⟩, by simp [intOf]⟩
      · have c0 : wr.cell? ⟨w.heap.size + 4 + 1 + 1 + 1, 0, none⟩ = some (.string ⟨#[126]⟩) := hrel.ch 3 (by decide) 0 _ rfl
        have kp : Kp wr w.heap.size 126 wr := ⟨fun _ _ _ _ => rfl, by rw [hrel.t.c 126 (by decide)]; rfl, hrel.t.f 126 (by decide), Nat.le_refl _⟩
        have hsz : wr.heap.size = w.heap.size + 15 + 3 := by have := hrel.t.s; omega
        have HL := Lib.hid (longest_at (some ⟨w.heap.size + 4 + 1 + 1 + 1, 0, none⟩) 1 1 (w.heap.size + 15 + 3))
        have kp2 := (kp.alloc (by omega) (.cells #[.slice (some ⟨w.heap.size + 4 + 1 + 1 + 1, 0, none⟩) 1 1] 46)).drew
        have hst := store_fn2 _ ⟨w.heap.size + 1, 126, none⟩ 92 (w.heap.size + 15 + 3) kp2.s kp2.f
        clear kp2
        have KP := Lib.hid kp
        have hix : ∀ W, (Instr.index 121 (.agg #[.slice (some ⟨w.heap.size + 4, 0, none⟩) 1 1, .slice (some ⟨w.heap.size + 4 + 1, 0, none⟩) 1 1, .slice (some ⟨w.heap.size + 4 + 1 + 1, 0, none⟩) 1 1, .slice (some ⟨w.heap.size + 4 + 1 + 1 + 1, 0, none⟩) 1 1, .slice (some ⟨w.heap.size + 4 + 1 + 1 + 1 + 1, 0, none⟩) 1 1, .slice (some ⟨w.heap.size + 4 + 1 + 1 + 1 + 1 + 1, 0, none⟩) 1 1, .slice (some ⟨w.heap.size + 4 + 1 + 1 + 1 + 1 + 1 + 1, 0, none⟩) 1 1, .slice (some ⟨w.heap.size + 4 + 1 + 1 + 1 + 1 + 1 + 1 + 1, 0, none⟩) 1 1, .slice (some ⟨w.heap.size + 4 + 1 + 1 + 1 + 1 + 1 + 1 + 1 + 1, 0, none⟩) 1 1, .slice (some ⟨w.heap.size + 4 + 1 + 1 + 1 + 1 + 1 + 1 + 1 + 1 + 1, 0, none⟩) 2 2, .slice (some ⟨w.heap.size + 4 + 1 + 1 + 1 + 1 + 1 + 1 + 1 + 1 + 1 + 1, 0, none⟩) 2 2]) (.int .i64 3)).run Tryd.prog W = .ok (.slice (some ⟨w.heap.size + 4 + 1 + 1 + 1, 0, none⟩) 1 1) W := fun W => index_sl _ 3 _ _ _ W (by decide) rfl
        have hby : ∀ h : 0 < (⟨#[126]⟩ : ByteArray).size, ((⟨#[126]⟩ : ByteArray)[0]'h).toNat = 126 := fun _ => rfl
        have HREL := Lib.hid hrel
        have hlt0 : w.heap.size + 15 ≤ wr.heap.size := by omega
        have HSZ := Lib.hid hsz
        clear hrel hsz
        have HK := Lib.hid (show ∀ W, Kp wr w.heap.size 126 W → _ from fun W (h : Kp wr w.heap.size 126 W) => And.intro ((h.c (w.heap.size + 4 + 1 + 1 + 1) 0 (by omega) (by omega)).trans c0) (And.intro h.s (And.intro h.f h)))
        clear kp
        go_wp2_with fail
        go_region_held3 (fun w' => w'.cell? ⟨w.heap.size + 4 + 1 + 1 + 1, 0, none⟩ = some (.string ⟨#[126]⟩) ∧ (w'.cell? ⟨w.heap.size + 1, 126, none⟩).isSome = true ∧ w'.frozen? ⟨w.heap.size + 1, 126, none⟩ = false ∧ Kp wr w.heap.size 126 w')
          ((refine HK.out _ ?_; repeat (first | assumption | exact KP.out | refine Kp.drew ?_ | refine Kp.alloc ?_ (by omega) _ | refine Kp.set ?_ _)))
          ((go_at_call 79; refine (HL.out _ ?_).mono ?_; (simp [HSZ.out]); rintro e w1 ⟨rfl, rfl⟩))
        all_goals (first | done | (clear hst hix hby c0 HK KP))
        all_goals (first | done | (go_wp2_with fail))
        all_goals
          exact ⟨⟨3 + 1, lstep _ HREL.out (by decide) _⟩, by simp [intOf]⟩
      · have c0 : wr.cell? ⟨w.heap.size + 4 + 1 + 1 + 1 + 1, 0, none⟩ = some (.string ⟨#[38]⟩) := hrel.ch 4 (by decide) 0 _ rfl
        have kp : Kp wr w.heap.size 38 wr := ⟨fun _ _ _ _ => rfl, by rw [hrel.t.c 38 (by decide)]; rfl, hrel.t.f 38 (by decide), Nat.le_refl _⟩
        have hsz : wr.heap.size = w.heap.size + 15 + 4 := by have := hrel.t.s; omega
        have HL := Lib.hid (longest_at (some ⟨w.heap.size + 4 + 1 + 1 + 1 + 1, 0, none⟩) 1 1 (w.heap.size + 15 + 4))
        have kp2 := (kp.alloc (by omega) (.cells #[.slice (some ⟨w.heap.size + 4 + 1 + 1 + 1 + 1, 0, none⟩) 1 1] 46)).drew
        have hst := store_fn2 _ ⟨w.heap.size + 1, 38, none⟩ 92 (w.heap.size + 15 + 4) kp2.s kp2.f
        clear kp2
        have KP := Lib.hid kp
        have hix : ∀ W, (Instr.index 121 (.agg #[.slice (some ⟨w.heap.size + 4, 0, none⟩) 1 1, .slice (some ⟨w.heap.size + 4 + 1, 0, none⟩) 1 1, .slice (some ⟨w.heap.size + 4 + 1 + 1, 0, none⟩) 1 1, .slice (some ⟨w.heap.size + 4 + 1 + 1 + 1, 0, none⟩) 1 1, .slice (some ⟨w.heap.size + 4 + 1 + 1 + 1 + 1, 0, none⟩) 1 1, .slice (some ⟨w.heap.size + 4 + 1 + 1 + 1 + 1 + 1, 0, none⟩) 1 1, .slice (some ⟨w.heap.size + 4 + 1 + 1 + 1 + 1 + 1 + 1, 0, none⟩) 1 1, .slice (some ⟨w.heap.size + 4 + 1 + 1 + 1 + 1 + 1 + 1 + 1, 0, none⟩) 1 1, .slice (some ⟨w.heap.size + 4 + 1 + 1 + 1 + 1 + 1 + 1 + 1 + 1, 0, none⟩) 1 1, .slice (some ⟨w.heap.size + 4 + 1 + 1 + 1 + 1 + 1 + 1 + 1 + 1 + 1, 0, none⟩) 2 2, .slice (some ⟨w.heap.size + 4 + 1 + 1 + 1 + 1 + 1 + 1 + 1 + 1 + 1 + 1, 0, none⟩) 2 2]) (.int .i64 4)).run Tryd.prog W = .ok (.slice (some ⟨w.heap.size + 4 + 1 + 1 + 1 + 1, 0, none⟩) 1 1) W := fun W => index_sl _ 4 _ _ _ W (by decide) rfl
        have hby : ∀ h : 0 < (⟨#[38]⟩ : ByteArray).size, ((⟨#[38]⟩ : ByteArray)[0]'h).toNat = 38 := fun _ => rfl
        have HREL := Lib.hid hrel
        have hlt0 : w.heap.size + 15 ≤ wr.heap.size := by omega
        have HSZ := Lib.hid hsz
        clear hrel hsz
        have HK := Lib.hid (show ∀ W, Kp wr w.heap.size 38 W → _ from fun W (h : Kp wr w.heap.size 38 W) => And.intro ((h.c (w.heap.size + 4 + 1 + 1 + 1 + 1) 0 (by omega) (by omega)).trans c0) (And.intro h.s (And.intro h.f h)))
        clear kp
        go_wp2_with fail
        go_region_held3 (fun w' => w'.cell? ⟨w.heap.size + 4 + 1 + 1 + 1 + 1, 0, none⟩ = some (.string ⟨#[38]⟩) ∧ (w'.cell? ⟨w.heap.size + 1, 38, none⟩).isSome = true ∧ w'.frozen? ⟨w.heap.size + 1, 38, none⟩ = false ∧ Kp wr w.heap.size 38 w')
          ((refine HK.out _ ?_; repeat (first | assumption | exact KP.out | refine Kp.drew ?_ | refine Kp.alloc ?_ (by omega) _ | refine Kp.set ?_ _)))
          ((go_at_call 79; refine (HL.out _ ?_).mono ?_; (simp [HSZ.out]); rintro e w1 ⟨rfl, rfl⟩))
        all_goals (first | done | (clear hst hix hby c0 HK KP))
        all_goals (first | done | (go_wp2_with fail))
        all_goals
          exact ⟨⟨4 + 1, lstep _ HREL.out (by decide) _⟩, by simp [intOf]⟩
      · have c0 : wr.cell? ⟨w.heap.size + 4 + 1 + 1 + 1 + 1 + 1, 0, none⟩ = some (.string ⟨#[124]⟩) := hrel.ch 5 (by decide) 0 _ rfl
        have kp : Kp wr w.heap.size 124 wr := ⟨fun _ _ _ _ => rfl, by rw [hrel.t.c 124 (by decide)]; rfl, hrel.t.f 124 (by decide), Nat.le_refl _⟩
        have hsz : wr.heap.size = w.heap.size + 15 + 5 := by have := hrel.t.s; omega
        have HL := Lib.hid (longest_at (some ⟨w.heap.size + 4 + 1 + 1 + 1 + 1 + 1, 0, none⟩) 1 1 (w.heap.size + 15 + 5))
        have kp2 := (kp.alloc (by omega) (.cells #[.slice (some ⟨w.heap.size + 4 + 1 + 1 + 1 + 1 + 1, 0, none⟩) 1 1] 46)).drew
        have hst := store_fn2 _ ⟨w.heap.size + 1, 124, none⟩ 92 (w.heap.size + 15 + 5) kp2.s kp2.f
        clear kp2
        have KP := Lib.hid kp
        have hix : ∀ W, (Instr.index 121 (.agg #[.slice (some ⟨w.heap.size + 4, 0, none⟩) 1 1, .slice (some ⟨w.heap.size + 4 + 1, 0, none⟩) 1 1, .slice (some ⟨w.heap.size + 4 + 1 + 1, 0, none⟩) 1 1, .slice (some ⟨w.heap.size + 4 + 1 + 1 + 1, 0, none⟩) 1 1, .slice (some ⟨w.heap.size + 4 + 1 + 1 + 1 + 1, 0, none⟩) 1 1, .slice (some ⟨w.heap.size + 4 + 1 + 1 + 1 + 1 + 1, 0, none⟩) 1 1, .slice (some ⟨w.heap.size + 4 + 1 + 1 + 1 + 1 + 1 + 1, 0, none⟩) 1 1, .slice (some ⟨w.heap.size + 4 + 1 + 1 + 1 + 1 + 1 + 1 + 1, 0, none⟩) 1 1, .slice (some ⟨w.heap.size + 4 + 1 + 1 + 1 + 1 + 1 + 1 + 1 + 1, 0, none⟩) 1 1, .slice (some ⟨w.heap.size + 4 + 1 + 1 + 1 + 1 + 1 + 1 + 1 + 1 + 1, 0, none⟩) 2 2, .slice (some ⟨w.heap.size + 4 + 1 + 1 + 1 + 1 + 1 + 1 + 1 + 1 + 1 + 1, 0, none⟩) 2 2]) (.int .i64 5)).run Tryd.prog W = .ok (.slice (some ⟨w.heap.size + 4 + 1 + 1 + 1 + 1 + 1, 0, none⟩) 1 1) W := fun W => index_sl _ 5 _ _ _ W (by decide) rfl
        have hby : ∀ h : 0 < (⟨#[124]⟩ : ByteArray).size, ((⟨#[124]⟩ : ByteArray)[0]'h).toNat = 124 := fun _ => rfl
        have HREL := Lib.hid hrel
        have hlt0 : w.heap.size + 15 ≤ wr.heap.size := by omega
        have HSZ := Lib.hid hsz
        clear hrel hsz
        have HK := Lib.hid (show ∀ W, Kp wr w.heap.size 124 W → _ from fun W (h : Kp wr w.heap.size 124 W) => And.intro ((h.c (w.heap.size + 4 + 1 + 1 + 1 + 1 + 1) 0 (by omega) (by omega)).trans c0) (And.intro h.s (And.intro h.f h)))
        clear kp
        go_wp2_with fail
        go_region_held3 (fun w' => w'.cell? ⟨w.heap.size + 4 + 1 + 1 + 1 + 1 + 1, 0, none⟩ = some (.string ⟨#[124]⟩) ∧ (w'.cell? ⟨w.heap.size + 1, 124, none⟩).isSome = true ∧ w'.frozen? ⟨w.heap.size + 1, 124, none⟩ = false ∧ Kp wr w.heap.size 124 w')
          ((refine HK.out _ ?_; repeat (first | assumption | exact KP.out | refine Kp.drew ?_ | refine Kp.alloc ?_ (by omega) _ | refine Kp.set ?_ _)))
          ((go_at_call 79; refine (HL.out _ ?_).mono ?_; (simp [HSZ.out]); rintro e w1 ⟨rfl, rfl⟩))
        all_goals (first | done | (clear hst hix hby c0 HK KP))
        all_goals (first | done | (go_wp2_with fail))
        all_goals
          exact ⟨⟨5 + 1, lstep _ HREL.out (by decide) _⟩, by simp [intOf]⟩
      · have c0 : wr.cell? ⟨w.heap.size + 4 + 1 + 1 + 1 + 1 + 1 + 1, 0, none⟩ = some (.string ⟨#[47]⟩) := hrel.ch 6 (by decide) 0 _ rfl
        have kp : Kp wr w.heap.size 47 wr := ⟨fun _ _ _ _ => rfl, by rw [hrel.t.c 47 (by decide)]; rfl, hrel.t.f 47 (by decide), Nat.le_refl _⟩
        have hsz : wr.heap.size = w.heap.size + 15 + 6 := by have := hrel.t.s; omega
        have HL := Lib.hid (longest_at (some ⟨w.heap.size + 4 + 1 + 1 + 1 + 1 + 1 + 1, 0, none⟩) 1 1 (w.heap.size + 15 + 6))
        have kp2 := (kp.alloc (by omega) (.cells #[.slice (some ⟨w.heap.size + 4 + 1 + 1 + 1 + 1 + 1 + 1, 0, none⟩) 1 1] 46)).drew
        have hst := store_fn2 _ ⟨w.heap.size + 1, 47, none⟩ 92 (w.heap.size + 15 + 6) kp2.s kp2.f
        clear kp2
        have KP := Lib.hid kp
        have hix : ∀ W, (Instr.index 121 (.agg #[.slice (some ⟨w.heap.size + 4, 0, none⟩) 1 1, .slice (some ⟨w.heap.size + 4 + 1, 0, none⟩) 1 1, .slice (some ⟨w.heap.size + 4 + 1 + 1, 0, none⟩) 1 1, .slice (some ⟨w.heap.size + 4 + 1 + 1 + 1, 0, none⟩) 1 1, .slice (some ⟨w.heap.size + 4 + 1 + 1 + 1 + 1, 0, none⟩) 1 1, .slice (some ⟨w.heap.size + 4 + 1 + 1 + 1 + 1 + 1, 0, none⟩) 1 1, .slice (some ⟨w.heap.size + 4 + 1 + 1 + 1 + 1 + 1 + 1, 0, none⟩) 1 1, .slice (some ⟨w.heap.size + 4 + 1 + 1 + 1 + 1 + 1 + 1 + 1, 0, none⟩) 1 1, .slice (some ⟨w.heap.size + 4 + 1 + 1 + 1 + 1 + 1 + 1 + 1 + 1, 0, none⟩) 1 1, .slice (some ⟨w.heap.size + 4 + 1 + 1 + 1 + 1 + 1 + 1 + 1 + 1 + 1, 0, none⟩) 2 2, .slice (some ⟨w.heap.size + 4 + 1 + 1 + 1 + 1 + 1 + 1 + 1 + 1 + 1 + 1, 0, none⟩) 2 2]) (.int .i64 6)).run Tryd.prog W = .ok (.slice (some ⟨w.heap.size + 4 + 1 + 1 + 1 + 1 + 1 + 1, 0, none⟩) 1 1) W := fun W => index_sl _ 6 _ _ _ W (by decide) rfl
        have hby : ∀ h : 0 < (⟨#[47]⟩ : ByteArray).size, ((⟨#[47]⟩ : ByteArray)[0]'h).toNat = 47 := fun _ => rfl
        have HREL := Lib.hid hrel
        have hlt0 : w.heap.size + 15 ≤ wr.heap.size := by omega
        have HSZ := Lib.hid hsz
        clear hrel hsz
        have HK := Lib.hid (show ∀ W, Kp wr w.heap.size 47 W → _ from fun W (h : Kp wr w.heap.size 47 W) => And.intro ((h.c (w.heap.size + 4 + 1 + 1 + 1 + 1 + 1 + 1) 0 (by omega) (by omega)).trans c0) (And.intro h.s (And.intro h.f h)))
        clear kp
        go_wp2_with fail
        go_region_held3 (fun w' => w'.cell? ⟨w.heap.size + 4 + 1 + 1 + 1 + 1 + 1 + 1, 0, none⟩ = some (.string ⟨#[47]⟩) ∧ (w'.cell? ⟨w.heap.size + 1, 47, none⟩).isSome = true ∧ w'.frozen? ⟨w.heap.size + 1, 47, none⟩ = false ∧ Kp wr w.heap.size 47 w')
          ((refine HK.out _ ?_; repeat (first | assumption | exact KP.out | refine Kp.drew ?_ | refine Kp.alloc ?_ (by omega) _ | refine Kp.set ?_ _)))
          ((go_at_call 79; refine (HL.out _ ?_).mono ?_; (simp [HSZ.out]); rintro e w1 ⟨rfl, rfl⟩))
        all_goals (first | done | (clear hst hix hby c0 HK KP))
        all_goals (first | done | (go_wp2_with fail))
        all_goals
          exact ⟨⟨6 + 1, lstep _ HREL.out (by decide) _⟩, by simp [intOf]⟩
      · have c0 : wr.cell? ⟨w.heap.size + 4 + 1 + 1 + 1 + 1 + 1 + 1 + 1, 0, none⟩ = some (.string ⟨#[93]⟩) := hrel.ch 7 (by decide) 0 _ rfl
        have kp : Kp wr w.heap.size 93 wr := ⟨fun _ _ _ _ => rfl, by rw [hrel.t.c 93 (by decide)]; rfl, hrel.t.f 93 (by decide), Nat.le_refl _⟩
        have hsz : wr.heap.size = w.heap.size + 15 + 7 := by have := hrel.t.s; omega
        have HL := Lib.hid (longest_at (some ⟨w.heap.size + 4 + 1 + 1 + 1 + 1 + 1 + 1 + 1, 0, none⟩) 1 1 (w.heap.size + 15 + 7))
        have kp2 := (kp.alloc (by omega) (.cells #[.slice (some ⟨w.heap.size + 4 + 1 + 1 + 1 + 1 + 1 + 1 + 1, 0, none⟩) 1 1] 46)).drew
        have hst := store_fn2 _ ⟨w.heap.size + 1, 93, none⟩ 92 (w.heap.size + 15 + 7) kp2.s kp2.f
        clear kp2
        have KP := Lib.hid kp
        have hix : ∀ W, (Instr.index 121 (.agg #[.slice (some ⟨w.heap.size + 4, 0, none⟩) 1 1, .slice (some ⟨w.heap.size + 4 + 1, 0, none⟩) 1 1, .slice (some ⟨w.heap.size + 4 + 1 + 1, 0, none⟩) 1 1, .slice (some ⟨w.heap.size + 4 + 1 + 1 + 1, 0, none⟩) 1 1, .slice (some ⟨w.heap.size + 4 + 1 + 1 + 1 + 1, 0, none⟩) 1 1, .slice (some ⟨w.heap.size + 4 + 1 + 1 + 1 + 1 + 1, 0, none⟩) 1 1, .slice (some ⟨w.heap.size + 4 + 1 + 1 + 1 + 1 + 1 + 1, 0, none⟩) 1 1, .slice (some ⟨w.heap.size + 4 + 1 + 1 + 1 + 1 + 1 + 1 + 1, 0, none⟩) 1 1, .slice (some ⟨w.heap.size + 4 + 1 + 1 + 1 + 1 + 1 + 1 + 1 + 1, 0, none⟩) 1 1, .slice (some ⟨w.heap.size + 4 + 1 + 1 + 1 + 1 + 1 + 1 + 1 + 1 + 1, 0, none⟩) 2 2, .slice (some ⟨w.heap.size + 4 + 1 + 1 + 1 + 1 + 1 + 1 + 1 + 1 + 1 + 1, 0, none⟩) 2 2]) (.int .i64 7)).run Tryd.prog W = .ok (.slice (some ⟨w.heap.size + 4 + 1 + 1 + 1 + 1 + 1 + 1 + 1, 0, none⟩) 1 1) W := fun W => index_sl _ 7 _ _ _ W (by decide) rfl
        have hby : ∀ h : 0 < (⟨#[93]⟩ : ByteArray).size, ((⟨#[93]⟩ : ByteArray)[0]'h).toNat = 93 := fun _ => rfl
        have HREL := Lib.hid hrel
        have hlt0 : w.heap.size + 15 ≤ wr.heap.size := by omega
        have HSZ := Lib.hid hsz
        clear hrel hsz
        have HK := Lib.hid (show ∀ W, Kp wr w.heap.size 93 W → _ from fun W (h : Kp wr w.heap.size 93 W) => And.intro ((h.c (w.heap.size + 4 + 1 + 1 + 1 + 1 + 1 + 1 + 1) 0 (by omega) (by omega)).trans c0) (And.intro h.s (And.intro h.f h)))
        clear kp
        go_wp2_with fail
        go_region_held3 (fun w' => w'.cell? ⟨w.heap.size + 4 + 1 + 1 + 1 + 1 + 1 + 1 + 1, 0, none⟩ = some (.string ⟨#[93]⟩) ∧ (w'.cell? ⟨w.heap.size + 1, 93, none⟩).isSome = true ∧ w'.frozen? ⟨w.heap.size + 1, 93, none⟩ = false ∧ Kp wr w.heap.size 93 w')
          ((refine HK.out _ ?_; repeat (first | assumption | exact KP.out | refine Kp.drew ?_ | refine Kp.alloc ?_ (by omega) _ | refine Kp.set ?_ _)))
          ((go_at_call 79; refine (HL.out _ ?_).mono ?_; (simp [HSZ.out]); rintro e w1 ⟨rfl, rfl⟩))
        all_goals (first | done | (clear hst hix hby c0 HK KP))
        all_goals (first | done | (go_wp2_with fail))
        all_goals
          exact ⟨⟨7 + 1, lstep _ HREL.out (by decide) _⟩, by simp [intOf]⟩
      · have c0 : wr.cell? ⟨w.heap.size + 4 + 1 + 1 + 1 + 1 + 1 + 1 + 1 + 1, 0, none⟩ = some (.string ⟨#[45, 62]⟩) := hrel.ch 8 (by decide) 0 _ rfl
        have kp : Kp wr w.heap.size 45 wr := ⟨fun _ _ _ _ => rfl, by rw [hrel.t.c 45 (by decide)]; rfl, hrel.t.f 45 (by decide), Nat.le_refl _⟩
        have hsz : wr.heap.size = w.heap.size + 15 + 8 := by have := hrel.t.s; omega
        have HL := Lib.hid (longest_at (some ⟨w.heap.size + 4 + 1 + 1 + 1 + 1 + 1 + 1 + 1 + 1, 0, none⟩) 1 1 (w.heap.size + 15 + 8))
        have kp2 := (kp.alloc (by omega) (.cells #[.slice (some ⟨w.heap.size + 4 + 1 + 1 + 1 + 1 + 1 + 1 + 1 + 1, 0, none⟩) 1 1] 46)).drew
        have hst := store_fn2 _ ⟨w.heap.size + 1, 45, none⟩ 92 (w.heap.size + 15 + 8) kp2.s kp2.f
        clear kp2
        have KP := Lib.hid kp
        have hix : ∀ W, (Instr.index 121 (.agg #[.slice (some ⟨w.heap.size + 4, 0, none⟩) 1 1, .slice (some ⟨w.heap.size + 4 + 1, 0, none⟩) 1 1, .slice (some ⟨w.heap.size + 4 + 1 + 1, 0, none⟩) 1 1, .slice (some ⟨w.heap.size + 4 + 1 + 1 + 1, 0, none⟩) 1 1, .slice (some ⟨w.heap.size + 4 + 1 + 1 + 1 + 1, 0, none⟩) 1 1, .slice (some ⟨w.heap.size + 4 + 1 + 1 + 1 + 1 + 1, 0, none⟩) 1 1, .slice (some ⟨w.heap.size + 4 + 1 + 1 + 1 + 1 + 1 + 1, 0, none⟩) 1 1, .slice (some ⟨w.heap.size + 4 + 1 + 1 + 1 + 1 + 1 + 1 + 1, 0, none⟩) 1 1, .slice (some ⟨w.heap.size + 4 + 1 + 1 + 1 + 1 + 1 + 1 + 1 + 1, 0, none⟩) 1 1, .slice (some ⟨w.heap.size + 4 + 1 + 1 + 1 + 1 + 1 + 1 + 1 + 1 + 1, 0, none⟩) 2 2, .slice (some ⟨w.heap.size + 4 + 1 + 1 + 1 + 1 + 1 + 1 + 1 + 1 + 1 + 1, 0, none⟩) 2 2]) (.int .i64 8)).run Tryd.prog W = .ok (.slice (some ⟨w.heap.size + 4 + 1 + 1 + 1 + 1 + 1 + 1 + 1 + 1, 0, none⟩) 1 1) W := fun W => index_sl _ 8 _ _ _ W (by decide) rfl
        have hby : ∀ h : 0 < (⟨#[45, 62]⟩ : ByteArray).size, ((⟨#[45, 62]⟩ : ByteArray)[0]'h).toNat = 45 := fun _ => rfl
        have HREL := Lib.hid hrel
        have hlt0 : w.heap.size + 15 ≤ wr.heap.size := by omega
        have HSZ := Lib.hid hsz
        clear hrel hsz
        have HK := Lib.hid (show ∀ W, Kp wr w.heap.size 45 W → _ from fun W (h : Kp wr w.heap.size 45 W) => And.intro ((h.c (w.heap.size + 4 + 1 + 1 + 1 + 1 + 1 + 1 + 1 + 1) 0 (by omega) (by omega)).trans c0) (And.intro h.s (And.intro h.f h)))
        clear kp
        go_wp2_with fail
        go_region_held3 (fun w' => w'.cell? ⟨w.heap.size + 4 + 1 + 1 + 1 + 1 + 1 + 1 + 1 + 1, 0, none⟩ = some (.string ⟨#[45, 62]⟩) ∧ (w'.cell? ⟨w.heap.size + 1, 45, none⟩).isSome = true ∧ w'.frozen? ⟨w.heap.size + 1, 45, none⟩ = false ∧ Kp wr w.heap.size 45 w')
          ((refine HK.out _ ?_; repeat (first | assumption | exact KP.out | refine Kp.drew ?_ | refine Kp.alloc ?_ (by omega) _ | refine Kp.set ?_ _)))
          ((go_at_call 79; refine (HL.out _ ?_).mono ?_; (simp [HSZ.out]); rintro e w1 ⟨rfl, rfl⟩))
        all_goals (first | done | (clear hst hix hby c0 HK KP))
        all_goals (first | done | (go_wp2_with fail))
        all_goals
          exact ⟨⟨8 + 1, lstep _ HREL.out (by decide) _⟩, by simp [intOf]⟩
      · have c0 : wr.cell? ⟨w.heap.size + 4 + 1 + 1 + 1 + 1 + 1 + 1 + 1 + 1 + 1, 0, none⟩ = some (.string ⟨#[60, 45, 62]⟩) := hrel.ch 9 (by decide) 0 _ rfl
        have kp : Kp wr w.heap.size 60 wr := ⟨fun _ _ _ _ => rfl, by rw [hrel.t.c 60 (by decide)]; rfl, hrel.t.f 60 (by decide), Nat.le_refl _⟩
        have hsz : wr.heap.size = w.heap.size + 15 + 9 := by have := hrel.t.s; omega
        have HL := Lib.hid (longest_at (some ⟨w.heap.size + 4 + 1 + 1 + 1 + 1 + 1 + 1 + 1 + 1 + 1, 0, none⟩) 2 2 (w.heap.size + 15 + 9))
        have kp2 := (kp.alloc (by omega) (.cells #[.slice (some ⟨w.heap.size + 4 + 1 + 1 + 1 + 1 + 1 + 1 + 1 + 1 + 1, 0, none⟩) 2 2] 46)).drew
        have hst := store_fn2 _ ⟨w.heap.size + 1, 60, none⟩ 92 (w.heap.size + 15 + 9) kp2.s kp2.f
        clear kp2
        have KP := Lib.hid kp
        have hix : ∀ W, (Instr.index 121 (.agg #[.slice (some ⟨w.heap.size + 4, 0, none⟩) 1 1, .slice (some ⟨w.heap.size + 4 + 1, 0, none⟩) 1 1, .slice (some ⟨w.heap.size + 4 + 1 + 1, 0, none⟩) 1 1, .slice (some ⟨w.heap.size + 4 + 1 + 1 + 1, 0, none⟩) 1 1, .slice (some ⟨w.heap.size + 4 + 1 + 1 + 1 + 1, 0, none⟩) 1 1, .slice (some ⟨w.heap.size + 4 + 1 + 1 + 1 + 1 + 1, 0, none⟩) 1 1, .slice (some ⟨w.heap.size + 4 + 1 + 1 + 1 + 1 + 1 + 1, 0, none⟩) 1 1, .slice (some ⟨w.heap.size + 4 + 1 + 1 + 1 + 1 + 1 + 1 + 1, 0, none⟩) 1 1, .slice (some ⟨w.heap.size + 4 + 1 + 1 + 1 + 1 + 1 + 1 + 1 + 1, 0, none⟩) 1 1, .slice (some ⟨w.heap.size + 4 + 1 + 1 + 1 + 1 + 1 + 1 + 1 + 1 + 1, 0, none⟩) 2 2, .slice (some ⟨w.heap.size + 4 + 1 + 1 + 1 + 1 + 1 + 1 + 1 + 1 + 1 + 1, 0, none⟩) 2 2]) (.int .i64 9)).run Tryd.prog W = .ok (.slice (some ⟨w.heap.size + 4 + 1 + 1 + 1 + 1 + 1 + 1 + 1 + 1 + 1, 0, none⟩) 2 2) W := fun W => index_sl _ 9 _ _ _ W (by decide) rfl
        have hby : ∀ h : 0 < (⟨#[60, 45, 62]⟩ : ByteArray).size, ((⟨#[60, 45, 62]⟩ : ByteArray)[0]'h).toNat = 60 := fun _ => rfl
        have HREL := Lib.hid hrel
        have hlt0 : w.heap.size + 15 ≤ wr.heap.size := by omega
        have HSZ := Lib.hid hsz
        clear hrel hsz
        have HK := Lib.hid (show ∀ W, Kp wr w.heap.size 60 W → _ from fun W (h : Kp wr w.heap.size 60 W) => And.intro ((h.c (w.heap.size + 4 + 1 + 1 + 1 + 1 + 1 + 1 + 1 + 1 + 1) 0 (by omega) (by omega)).trans c0) (And.intro h.s (And.intro h.f h)))
        clear kp
        go_wp2_with fail
        go_region_held3 (fun w' => w'.cell? ⟨w.heap.size + 4 + 1 + 1 + 1 + 1 + 1 + 1 + 1 + 1 + 1, 0, none⟩ = some (.string ⟨#[60, 45, 62]⟩) ∧ (w'.cell? ⟨w.heap.size + 1, 60, none⟩).isSome = true ∧ w'.frozen? ⟨w.heap.size + 1, 60, none⟩ = false ∧ Kp wr w.heap.size 60 w')
          ((refine HK.out _ ?_; repeat (first | assumption | exact KP.out | refine Kp.drew ?_ | refine Kp.alloc ?_ (by omega) _ | refine Kp.set ?_ _)))
          ((go_at_call 79; refine (HL.out _ ?_).mono ?_; (simp [HSZ.out]); rintro e w1 ⟨rfl, rfl⟩))
        all_goals (first | done | (clear hst hix hby c0 HK KP))
        all_goals (first | done | (go_wp2_with fail))
        all_goals
          exact ⟨⟨9 + 1, lstep _ HREL.out (by decide) _⟩, by simp [intOf]⟩
      · have c0 : wr.cell? ⟨w.heap.size + 4 + 1 + 1 + 1 + 1 + 1 + 1 + 1 + 1 + 1 + 1, 0, none⟩ = some (.string ⟨#[91, 93]⟩) := hrel.ch 10 (by decide) 0 _ rfl
        have kp : Kp wr w.heap.size 91 wr := ⟨fun _ _ _ _ => rfl, by rw [hrel.t.c 91 (by decide)]; rfl, hrel.t.f 91 (by decide), Nat.le_refl _⟩
        have hsz : wr.heap.size = w.heap.size + 15 + 10 := by have := hrel.t.s; omega
        have HL := Lib.hid (longest_at (some ⟨w.heap.size + 4 + 1 + 1 + 1 + 1 + 1 + 1 + 1 + 1 + 1 + 1, 0, none⟩) 2 2 (w.heap.size + 15 + 10))
        have kp2 := (kp.alloc (by omega) (.cells #[.slice (some ⟨w.heap.size + 4 + 1 + 1 + 1 + 1 + 1 + 1 + 1 + 1 + 1 + 1, 0, none⟩) 2 2] 46)).drew
        have hst := store_fn2 _ ⟨w.heap.size + 1, 91, none⟩ 92 (w.heap.size + 15 + 10) kp2.s kp2.f
        clear kp2
        have KP := Lib.hid kp
        have hix : ∀ W, (Instr.index 121 (.agg #[.slice (some ⟨w.heap.size + 4, 0, none⟩) 1 1, .slice (some ⟨w.heap.size + 4 + 1, 0, none⟩) 1 1, .slice (some ⟨w.heap.size + 4 + 1 + 1, 0, none⟩) 1 1, .slice (some ⟨w.heap.size + 4 + 1 + 1 + 1, 0, none⟩) 1 1, .slice (some ⟨w.heap.size + 4 + 1 + 1 + 1 + 1, 0, none⟩) 1 1, .slice (some ⟨w.heap.size + 4 + 1 + 1 + 1 + 1 + 1, 0, none⟩) 1 1, .slice (some ⟨w.heap.size + 4 + 1 + 1 + 1 + 1 + 1 + 1, 0, none⟩) 1 1, .slice (some ⟨w.heap.size + 4 + 1 + 1 + 1 + 1 + 1 + 1 + 1, 0, none⟩) 1 1, .slice (some ⟨w.heap.size + 4 + 1 + 1 + 1 + 1 + 1 + 1 + 1 + 1, 0, none⟩) 1 1, .slice (some ⟨w.heap.size + 4 + 1 + 1 + 1 + 1 + 1 + 1 + 1 + 1 + 1, 0, none⟩) 2 2, .slice (some ⟨w.heap.size + 4 + 1 + 1 + 1 + 1 + 1 + 1 + 1 + 1 + 1 + 1, 0, none⟩) 2 2]) (.int .i64 10)).run Tryd.prog W = .ok (.slice (some ⟨w.heap.size + 4 + 1 + 1 + 1 + 1 + 1 + 1 + 1 + 1 + 1 + 1, 0, none⟩) 2 2) W := fun W => index_sl _ 10 _ _ _ W (by decide) rfl
        have hby : ∀ h : 0 < (⟨#[91, 93]⟩ : ByteArray).size, ((⟨#[91, 93]⟩ : ByteArray)[0]'h).toNat = 91 := fun _ => rfl
        have HREL := Lib.hid hrel
        have hlt0 : w.heap.size + 15 ≤ wr.heap.size := by omega
        have HSZ := Lib.hid hsz
        clear hrel hsz
        have HK := Lib.hid (show ∀ W, Kp wr w.heap.size 91 W → _ from fun W (h : Kp wr w.heap.size 91 W) => And.intro ((h.c (w.heap.size + 4 + 1 + 1 + 1 + 1 + 1 + 1 + 1 + 1 + 1 + 1) 0 (by omega) (by omega)).trans c0) (And.intro h.s (And.intro h.f h)))
        clear kp
        go_wp2_with fail
        go_region_held3 (fun w' => w'.cell? ⟨w.heap.size + 4 + 1 + 1 + 1 + 1 + 1 + 1 + 1 + 1 + 1 + 1, 0, none⟩ = some (.string ⟨#[91, 93]⟩) ∧ (w'.cell? ⟨w.heap.size + 1, 91, none⟩).isSome = true ∧ w'.frozen? ⟨w.heap.size + 1, 91, none⟩ = false ∧ Kp wr w.heap.size 91 w')
          ((refine HK.out _ ?_; repeat (first | assumption | exact KP.out | refine Kp.drew ?_ | refine Kp.alloc ?_ (by omega) _ | refine Kp.set ?_ _)))
          ((go_at_call 79; refine (HL.out _ ?_).mono ?_; (simp [HSZ.out]); rintro e w1 ⟨rfl, rfl⟩))
        all_goals (first | done | (clear hst hix hby c0 HK KP))
        all_goals (first | done | (go_wp2_with fail))
        all_goals
          exact ⟨⟨10 + 1, lstep _ HREL.out (by decide) _⟩, by simp [intOf]⟩
      · have HREL := Lib.hid hrel
        have ht := hrel.t
        have hr : wr.rangeAt (w.heap.size + 1) 0 (F3L w.heap.size) := fun j v hv => by
          have hj : j < 256 := by have := (List.getElem?_eq_some_iff.1 hv).1; simpa [F3L] using this
          rw [f3l_get _ _ hj] at hv
          rw [Nat.zero_add, ht.c j hj, ← hv]
        have hth := ht.t
        have HB := Lib.hid ht.b
        have hlen : (F3L w.heap.size).length = 256 := by simp [F3L]
        have hone := f3l_one w.heap.size
        have hrd := rdr_of hrel
        clear hrel ht
        obtain ⟨T, hT⟩ : ∃ T, F3L w.heap.size = T := ⟨_, rfl⟩
        rw [hT] at hr hlen hone hrd
        have hri : (wr.setCells w.heap.size 0 T).rangeAt w.heap.size 0 T := World.rangeAt_setCells_same wr w.heap.size 0 T (by rw [hlen]; exact hth)
        have HRI := Lib.hid hri
        have HRD := Lib.hid hrd
        have HB2 := Lib.hid (below_setCells (Nat.le_refl w.heap.size) T 0 HB.out)
        have HR := Lib.hid hr
        have HTH := Lib.hid hth
        clear hr hth hri hrd HB hT
        go_upto_region 15 with (fail)
        refine wp_region_lit ?_
        refine wpList_load_mid rfl 103 _ rfl (w.heap.size + 1) 0 rfl T _ HR.out Tryd.underlying103 rfl (by rw [hlen]; exact HI.out) ?_
        refine wpList_store_mid rfl 103 _ _ rfl w.heap.size 0 T.toArray rfl rfl (by rw [show T.toArray.size = 256 by simpa using hlen]; exact HTH.out) (by rw [show T.toArray.size = 256 by simpa using hlen]; exact HI.out) (all_oneCell_toArray hone) ?_
        refine wpList_nil ?_
        go_wp2_with fail
        refine bodyPost_ret (v := .agg T.toArray) ?_ rfl ⟨T, rfl, HB2.out, HRD.out⟩
        exact results_arr HRI.out (by rw [hlen]; exact HI.out) rfl
end Go.Proofs.YtkeckecdhcknhaaDoor.Lx

/-
  The contract of next.
-/
import Derived.Test.YtkeckecdhcknhaaDoorLxScan
namespace Go.Proofs.YtkeckecdhcknhaaDoor.Lx
open Go Go.RowKit Go.Shelf Go.Proofs.YtkeckecdhcknhaaDoor.Fm
set_option linter.unusedVariables false
set_option linter.unusedSimpArgs false
/-- What next gives, and where the scanner stands then. -/
def nextY (s : ByteArray) (q : Nat) : (Tk × Nat) × Nat :=
  if restL s q = [] then ((⟨5, [], q⟩, 0), q)
  else ((⟨(tok1 KK (restL s q)).1, (restL s q).take (tok1 KK (restL s q)).2.1, q⟩, (tok1 KK (restL s q)).2.2), q + (tok1 KK (restL s q)).2.1)
def tokA (t : Tk) : Value := .agg #[.int .u8 (t.k : Int), .string (bs t.t), .int .i64 (t.a : Int)]
def NxP (W : World) (S lo hi : Nat) (s : ByteArray) (T : List Value) (p : Nat) (e : Ending) (w' : World) : Prop :=
  e = .returned (.tuple #[tokA (nextY s p).1.1, .int .i64 ((nextY s p).1.2 : Int)]) ∧ Scn w' S lo hi s T (nextY s p).2 ∧ Grow (fun b => b = S) W w'
theorem rest_bs (s : ByteArray) (q : Nat) (h : q ≤ s.size) : s.extract q s.size = bs (restL s q) := by
  obtain ⟨d⟩ := s
  unfold bs restL
  apply ByteArray.ext
  apply Array.ext'
  have h : q ≤ d.size := h
  show (ByteArray.extract ⟨d⟩ q d.size).data.toList = _
  rw [ByteArray.data_extract]
  simp
  rw [List.take_of_length_le (by simp)]
theorem cut_bs (s : ByteArray) (q n : Nat) (hn : n ≤ (restL s q).length) : (bs (restL s q)).extract 0 n = bs ((restL s q).take n) := by
  unfold bs
  apply ByteArray.ext
  apply Array.ext'
  rw [ByteArray.data_extract]
  simp
theorem ofNat_toNat (c : UInt8) : UInt8.ofNat c.toNat = c := by simp
theorem runLen_cons (c : UInt8) (r : Bs) : runLen (c :: r) = (r.takeWhile lod).length + 1 := rfl
theorem tokN_cons (kf : ByteArray → Nat) (c : UInt8) (r : Bs) : tokN kf (bs (c :: r)) = if kf (bs (c :: r.takeWhile lod)) = 0 then (0, 0, 41) else (kf (bs (c :: r.takeWhile lod)), (r.takeWhile lod).length + 1, 0) := by
  unfold tokN
  rw [bs_toList, runLen_cons]
  have e : (bs (c :: r)).extract 0 ((r.takeWhile lod).length + 1) = bs (c :: r.takeWhile lod) := by
    unfold bs
    apply ByteArray.ext
    apply Array.ext'
    rw [ByteArray.data_extract]
    simp [take_tw]
  rw [e]
theorem prefB_bs (l : Bs) (p : ByteArray) : prefB (bs l) p = (l.take p.data.toList.length == p.data.toList) := by
  unfold prefB
  have hp : p.data.toList.length = p.size := by simp
  have hl : (bs l).size = l.length := by unfold bs; simp [ByteArray.size]
  rw [hp, hl]
  have e1 : ((bs l).extract 0 p.size).toList = l.take p.size := by
    rw [ByteArray.toList_eq, ByteArray.data_extract]
    unfold bs; simp
  rw [e1, ByteArray.toList_eq]
  by_cases h : p.size ≤ l.length
  · simp [h]
  · have : (l.take p.size == p.data.toList) = false := by
      rw [beq_eq_false_iff_ne]
      intro he
      have := congrArg List.length he
      rw [List.length_take, hp] at this
      omega
    rw [this]; simp [h]
theorem long_sign (q : Nat) (hq : q < 11) (c : UInt8) (hc : (sgs.getD q (0, [])).1 = c.toNat) (r : Bs) : longS (bs (c :: r)) (sgs.getD q (0, [])).2 = tok1 KK (c :: r) := by
  have hcc : c = UInt8.ofNat (sgs.getD q (0, [])).1 := by rw [hc]; exact (ofNat_toNat c).symm
  subst hcc
  rw [tok1_cons]
  have hcase : q = 0 ∨ q = 1 ∨ q = 2 ∨ q = 3 ∨ q = 4 ∨ q = 5 ∨ q = 6 ∨ q = 7 ∨ q = 8 ∨ q = 9 ∨ q = 10 := by omega
  rcases hcase with rfl | rfl | rfl | rfl | rfl | rfl | rfl | rfl | rfl | rfl | rfl
  all_goals simp [sgs, longS, prefB_bs, sgn_cons, ltr, one, ByteArray.size]
  · by_cases h : r.take 1 = [62] <;> simp [h]
  · by_cases h : r.take 2 = [45, 62]
    · simp [h]
    · by_cases h2 : r.take 1 = [62] <;> simp [h, h2]
  · by_cases h : r.take 1 = [93] <;> simp [h]
theorem long_none (c : UInt8) (hl : ltr c = false) (h63 : c.toNat ≠ 63) (hs : ∀ q, q < 11 → (sgs.getD q (0, [])).1 ≠ c.toNat) (r : Bs) : tok1 KK (c :: r) = (0, 0, 40) := by
  have hn : ∀ n : Nat, n < 256 → c.toNat ≠ n → (c == UInt8.ofNat n) = false := fun n hn h => by
    rw [beq_eq_false_iff_ne]; rintro rfl; apply h; simp; omega
  have e63 := hn 63 (by decide) h63
  have e0 := hn 40 (by decide) (fun h => hs 0 (by decide) h.symm)
  have e1 := hn 41 (by decide) (fun h => hs 1 (by decide) h.symm)
  have e2 := hn 44 (by decide) (fun h => hs 2 (by decide) h.symm)
  have e3 := hn 126 (by decide) (fun h => hs 3 (by decide) h.symm)
  have e4 := hn 38 (by decide) (fun h => hs 4 (by decide) h.symm)
  have e5 := hn 124 (by decide) (fun h => hs 5 (by decide) h.symm)
  have e6 := hn 47 (by decide) (fun h => hs 6 (by decide) h.symm)
  have e7 := hn 93 (by decide) (fun h => hs 7 (by decide) h.symm)
  have e8 := hn 45 (by decide) (fun h => hs 8 (by decide) h.symm)
  have e9 := hn 60 (by decide) (fun h => hs 9 (by decide) h.symm)
  have e10 := hn 91 (by decide) (fun h => hs 10 (by decide) h.symm)
  change (c == 63) = false at e63
  change (c == 40) = false at e0
  change (c == 41) = false at e1
  change (c == 44) = false at e2
  change (c == 126) = false at e3
  change (c == 38) = false at e4
  change (c == 124) = false at e5
  change (c == 47) = false at e6
  change (c == 93) = false at e7
  change (c == 45) = false at e8
  change (c == 60) = false at e9
  change (c == 91) = false at e10
  have hsg : sgn (c :: r) = 0 := by
    rw [sgn_cons, e9, e8, e10]
    unfold one
    rw [e0, e1, e2, e3, e4, e5, e6, e10, e7]
    rfl
  rw [tok1_cons, hl, e63, hsg]
  rfl
/-- What the table says of a byte, and what its reader gives. -/
theorem rd_case {W0 : World} {lo hi : Nat} {T : List Value} (h : Rdr W0 lo hi T) (s : ByteArray) (q : Nat) (hq : q < s.size) (hsz : s.size ≤ 9223372036854775806) :
    (∃ B, T[s[q].toNat]? = some (runV B) ∧ ∀ W, Rdr W lo hi T → hi ≤ W.heap.size → Calls Tryd.prog 88 #[.string (s.extract q s.size), .pointer (some ⟨B, 0, none⟩)] W fun e w' => e = tup (tok1 KK (restL s q)) ∧ Below W.heap.size W w') ∨
    (∃ B, T[s[q].toNat]? = some (lonV B) ∧ ∀ W, Rdr W lo hi T → hi ≤ W.heap.size → Calls Tryd.prog 92 #[.string (s.extract q s.size), .pointer (some ⟨B, 0, none⟩)] W fun e w' => e = tup (tok1 KK (restL s q)) ∧ Below W.heap.size W w') ∨
    (T[s[q].toNat]? = some .nilFunc ∧ tok1 KK (restL s q) = (0, 0, 40)) := by
  have hj : s[q].toNat < 256 := s[q].toNat_lt
  have hr := restL_cons s q hq
  have hes : (s.extract q s.size).size ≤ 9223372036854775807 := by rw [ByteArray.size_extract]; omega
  have h1 : 1 ≤ (s.extract q s.size).size := by rw [ByteArray.size_extract]; omega
  have hb := rest_bs s q (by omega)
  generalize hc : s[q] = c at *
  generalize restL s (q + 1) = r at *
  rw [hr] at hb ⊢
  rw [hb] at hes h1 ⊢
  have hfun : ∀ B B', runV B = runV B' → B = B' := fun B B' h => by simpa [runV] using h
  have hfun2 : ∀ B B', lonV B = lonV B' → B = B' := fun B B' h => by simpa [lonV] using h
  cases hl : ltr c with
  | true =>
    left
    have hlb : lb c.toNat = true := by unfold lb; rw [ofNat_toNat]; exact hl
    obtain ⟨B, a1, a2, a3, a4⟩ := h.run _ hj hlb
    refine ⟨B, a1, fun W hW hz => ?_⟩
    obtain ⟨B', b1, b2, b3, b4⟩ := hW.run _ hj hlb
    obtain rfl := hfun B B' (by rw [a1] at b1; exact Option.some.inj b1)
    have := named1_run (bs (c :: r)) B W h1 b4 (by omega) hes
    rw [tokN_cons] at this
    rw [tok1_cons, if_pos hl]
    exact this
  | false =>
    by_cases h63 : c.toNat = 63
    · left
      obtain ⟨B, a1, a2, a3, a4⟩ := h.mark
      refine ⟨B, by rw [h63]; exact a1, fun W hW hz => ?_⟩
      obtain ⟨B', b1, b2, b3, b4⟩ := hW.mark
      obtain rfl := hfun B B' (by rw [a1] at b1; exact Option.some.inj b1)
      have := named1_mark (bs (c :: r)) B W h1 b4 (by omega) hes
      rw [tokN_cons] at this
      have e63 : (c == 63) = true := by rw [beq_iff_eq]; rw [← ofNat_toNat c, h63]; rfl
      rw [tok1_cons, if_neg (by rw [hl]; decide), if_pos e63]
      exact this
    · by_cases hs : ∃ q, q < 11 ∧ (sgs.getD q (0, [])).1 = c.toNat
      · right; left
        obtain ⟨i, hi, hs⟩ := hs
        obtain ⟨B, R, a1, a2, a3, a4, a5, a6, a7⟩ := h.sign i hi
        rw [hs] at a1
        refine ⟨B, a1, fun W hW hz => ?_⟩
        obtain ⟨B', R', b1, b2, b3, b4, b5, b6, b7⟩ := hW.sign i hi
        rw [hs] at b1
        obtain rfl := hfun2 B B' (by rw [a1] at b1; exact Option.some.inj b1)
        have hsm : ∀ i, i < 11 → (sgs.getD i (0, [])).2.length ≤ 100 ∧ ∀ p ∈ (sgs.getD i (0, [])).2, p.size ≤ 100 := by decide
        have := long1_c (bs (c :: r)) (sgs.getD i (0, [])).2 B R' (sgs.getD i (0, [])).2.length W b6 (fun j hj => b7 j _ (by unfold rows; simp [hj])) (hsm i hi).1 (hsm i hi).2 hes
        rw [long_sign i hi c hs r] at this
        exact this.mono fun e w' ⟨h1, h2⟩ => ⟨h1, by rw [← h2]; exact Below.refl _ _⟩
      · right; right
        have hs' : ∀ q, q < 11 → (sgs.getD q (0, [])).1 ≠ c.toNat := fun q hq he => hs ⟨q, hq, he⟩
        have hlb : lb c.toNat = false := by unfold lb; rw [ofNat_toNat]; exact hl
        exact ⟨h.nil _ hj hlb h63 hs', long_none c hl h63 hs' r⟩
theorem first_bs {R : ByteArray} {c : UInt8} {r : Bs} (h : R = bs (c :: r)) (h0 : 0 < R.size) : R[0] = c := by
  subst h; rfl
theorem res_next {tmps : Array Value} {W : World} {b : Nat} {x y z v : Value} (hr : W.rangeAt b 0 [x, y, z]) (h2 : tmps.getD 2 undef = .pointer (some ⟨b, 0, none⟩)) (h3 : tmps.getD 3 undef = v) :
    (results Tryd.f62 tmps).run Tryd.prog W = .ok (.tuple #[.agg #[x, y, z], v]) W := by
  have hl := run_loadVar_mid (P := Tryd.prog) W b 0 89 [x, y, z] _ hr Tryd.underlying89 rfl (by kernel_rfl)
  rw [Array.getD_eq_getD_getElem?] at h2 h3
  simp only [results, Tryd.results62]
  simp [h2, h3, hl, asAddr]
theorem tok1_bnd (l : Bs) (h : 0 < l.length) : (tok1 KK l).2.1 ≤ l.length ∧ ((tok1 KK l).2.2 ≠ 0 → (tok1 KK l).1 = 0 ∧ (tok1 KK l).2.1 = 0) := by
  by_cases h0 : (tok1 KK l).2.2 = 0
  · exact ⟨(tok1_bd KK h0).2.1, fun h => absurd h0 h⟩
  · match l with
    | [] => simp at h
    | c :: r =>
      rw [tok1_cons] at h0 ⊢
      split
      · rename_i h1
        rw [if_pos h1] at h0
        split
        · simp
        · rename_i h2; rw [if_neg h2] at h0; exact absurd rfl h0
      · rename_i h1
        rw [if_neg h1] at h0
        split
        · rename_i h2
          rw [if_pos h2] at h0
          split
          · simp
          · rename_i h3; rw [if_neg h3] at h0; exact absurd rfl h0
        · rename_i h2
          rw [if_neg h2] at h0
          split
          · simp
          · rename_i h3; rw [if_neg h3] at h0; exact absurd rfl h0
theorem eq_fn (f : Fn) (a b : Array Value) (W : World) : (binOp .eql 102 (.func f a b) .nilFunc).run Tryd.prog W = .ok (.bool false) W := by
  show (do pure (.bool (← Op.equal 102 (.func f a b) .nilFunc)) : Sem Value).run Tryd.prog W = _
  unfold Op.equal
  rw [show Op.maxDepth = (Op.maxDepth - 1) + 1 from rfl, Op.equalIn]
  simp [run_underlying Tryd.underlying102]
theorem eq_nil (W : World) : (binOp .eql 102 .nilFunc .nilFunc).run Tryd.prog W = .ok (.bool true) W := by
  show (do pure (.bool (← Op.equal 102 .nilFunc .nilFunc)) : Sem Value).run Tryd.prog W = _
  unfold Op.equal
  rw [show Op.maxDepth = (Op.maxDepth - 1) + 1 from rfl, Op.equalIn]
  simp [run_underlying Tryd.underlying102]
theorem scn_alloc {W : World} {S lo hi : Nat} {s : ByteArray} {T : List Value} {p : Nat} (h : Scn W S lo hi s T p) (o : Obj) : Scn (W.alloc o) S lo hi s T p :=
  h.keep (fun b hb => Below.heap_alloc _ _ _ (by have := h.z; have := h.hh; omega)) (by simp)
/-- A token is laid into the result's block N. -/
theorem lay_tok {W X : World} {S lo hi N : Nat} {s : ByteArray} {T : List Value} {q : Nat} (h : Scn X S lo hi s T q) (hhi : hi ≤ N) (hg : Grow (fun b => b = S) W X) (hS : S < N) (hN : W.heap.size ≤ N)
    (ht : ∀ j, j < 3 → (X.cell? ⟨N, j, none⟩).isSome = true) (x y z : Value) :
    (((X.setCell ⟨N, 0, none⟩ x).setCell ⟨N, 1, none⟩ y).setCell ⟨N, 2, none⟩ z).rangeAt N 0 [x, y, z] ∧ Scn (((X.setCell ⟨N, 0, none⟩ x).setCell ⟨N, 1, none⟩ y).setCell ⟨N, 2, none⟩ z) S lo hi s T q ∧
      Grow (fun b => b = S) W (((X.setCell ⟨N, 0, none⟩ x).setCell ⟨N, 1, none⟩ y).setCell ⟨N, 2, none⟩ z) := by
  refine ⟨fun j v hv => ?_, h.keep (fun b hb => ?_) (by simp), ?_⟩
  · have hj : j < 3 := (List.getElem?_eq_some_iff.1 hv).1
    have := World.cell?_setCells_in N [x, y, z] 0 X (fun i hi => by rw [Nat.zero_add]; exact ht i hi) j hj
    rw [← List.getElem?_eq_getElem, hv] at this
    exact this
  · rw [Below.heap_setCell _ _ _ _ (by show b ≠ N; omega), Below.heap_setCell _ _ _ _ (by show b ≠ N; omega), Below.heap_setCell _ _ _ _ (by show b ≠ N; omega)]
  · exact ((hg.trans (Grow.setCell (O := fun b => b = N) _ _ rfl) (fun b hb => .inr (by have h : b = N := hb; omega))).trans (Grow.setCell (O := fun b => b = N) _ _ rfl) (fun b hb => .inr (by have h : b = N := hb; omega))).trans (Grow.setCell (O := fun b => b = N) _ _ rfl) (fun b hb => .inr (by have h : b = N := hb; omega))
theorem Grow.alloc {O : Nat → Prop} {W W' : World} (h : Grow O W W') (o : Obj) : Grow O W (W'.alloc o) := h.trans (Grow.of_below ((Below.refl _ _).alloc (Nat.le_refl _) _)) (Sub.refl _ _)
theorem three_some (W : World) (x y z : Value) (t : TypeId) (n : Nat) : ∀ j, j < 3 → (((W.alloc (.cells #[x, y, z] t)).drewN n).cell? ⟨W.heap.size, j, none⟩).isSome = true := by
  intro j hj
  rw [World.cell?_drewN, World.cell?_alloc_at _ _ _ _ rfl]
  have hj : j = 0 ∨ j = 1 ∨ j = 2 := by omega
  rcases hj with rfl | rfl | rfl <;> rfl
theorem next_fin {W w1 : World} {S lo hi : Nat} {s : ByteArray} {T : List Value} {p n : Nat} (h : Scn w1 S lo hi s T p) (hhi : hi ≤ W.heap.size) (hb : Below W.heap.size W w1) (hS : S < W.heap.size) (hz : W.heap.size < w1.heap.size) (hq : p + n ≤ s.size)
    {u0 u1 u2 : Value} (r0 : w1.cell? ⟨W.heap.size, 0, none⟩ = some u0) (r1 : w1.cell? ⟨W.heap.size, 1, none⟩ = some u1) (r2 : w1.cell? ⟨W.heap.size, 2, none⟩ = some u2) (o : Obj) (x y z : Value) :
    ((((((w1.alloc o).setCell ⟨S, 0, none⟩ (.int .i64 ((p : Int) + (n : Int)))).setCell ⟨W.heap.size, 0, none⟩ x).setCell ⟨W.heap.size, 1, none⟩ y).setCell ⟨W.heap.size, 2, none⟩ z).drew).rangeAt W.heap.size 0 [x, y, z] ∧
    Scn ((((((w1.alloc o).setCell ⟨S, 0, none⟩ (.int .i64 ((p : Int) + (n : Int)))).setCell ⟨W.heap.size, 0, none⟩ x).setCell ⟨W.heap.size, 1, none⟩ y).setCell ⟨W.heap.size, 2, none⟩ z).drew) S lo hi s T (p + n) ∧
    Grow (fun b => b = S) W ((((((w1.alloc o).setCell ⟨S, 0, none⟩ (.int .i64 ((p : Int) + (n : Int)))).setCell ⟨W.heap.size, 0, none⟩ x).setCell ⟨W.heap.size, 1, none⟩ y).setCell ⟨W.heap.size, 2, none⟩ z).drew) := by
  have e : ((p : Int) + (n : Int)) = ((p + n : Nat) : Int) := by simp
  rw [e]
  have h1 := (scn_alloc h o).set (p + n) hq
  have hg : Grow (fun b => b = S) W ((w1.alloc o).setCell ⟨S, 0, none⟩ (.int .i64 ((p + n : Nat) : Int))) := (Grow.alloc (Grow.of_below hb) o).trans (Grow.setCell (O := fun b => b = S) _ _ rfl) (Sub.refl _ _)
  have ht : ∀ j, j < 3 → (((w1.alloc o).setCell ⟨S, 0, none⟩ (.int .i64 ((p + n : Nat) : Int))).cell? ⟨W.heap.size, j, none⟩).isSome = true := by
    intro j hj
    rw [World.cell?_setCell_other _ _ _ _ (fun e => by injection e with e1 _ _; omega), World.cell?_alloc_lt _ _ _ (by show W.heap.size < _; exact hz)]
    have hj : j = 0 ∨ j = 1 ∨ j = 2 := by omega
    rcases hj with rfl | rfl | rfl
    · rw [r0]; rfl
    · rw [r1]; rfl
    · rw [r2]; rfl
  obtain ⟨a1, a2, a3⟩ := lay_tok h1 hhi hg hS (Nat.le_refl _) ht x y z
  exact ⟨(World.rangeAt_drew _ _ _ _).2 a1, a2.drewN 1, Grow.drewN a3 1⟩
set_option maxHeartbeats 1000000 in
set_option maxRecDepth 20000 in
theorem next_c (W : World) (S lo hi : Nat) (s : ByteArray) (T : List Value) (p : Nat) (h : Scn W S lo hi s T p) (hs : s.size ≤ 9223372036854775806) :
    Calls Tryd.prog 62 #[.pointer (some ⟨S, 0, none⟩)] W (NxP W S lo hi s T p) := by
  have hl := h.l
  have hzz := h.z
  have hhi := h.hh
  have n0 : (0 : Int) ≤ (p : Int) := by omega
  have n1 : (p : Int) ≤ (s.size : Int) := by omega
  have h2 := fun o => scn_alloc h o
  have c0 := fun o => (h2 o).a
  have c1 := fun o => (h2 o).t
  have H := Lib.hid h
  have H2 := Lib.hid h2
  have hcase : p = s.size ∨ p < s.size := by omega
  have HL := Lib.hid hl
  clear h h2 hl
  rcases hcase with hp | hp
  · have HR := Lib.hid (restL_nil s p (by omega))
    have HP := Lib.hid hp
    have hR : s.extract p s.size = ⟨#[]⟩ := by rw [rest_bs s p (by omega), HR.out]; rfl
    clear hp
    go_enter Tryd.func62, Tryd.ntmps62
    go_wp2_with fail
    go_quiet (fail)
    go_wp2_with fail
    refine bodyPost_ret (v := .tuple #[.agg #[.int .u8 5, .string ⟨#[]⟩, .int .i64 p], .int .i64 0]) (res_next (b := W.heap.size) ?_ rfl rfl) rfl ?_
    · exact (lay_tok ((H2.out _).drewN _) hhi (Grow.drewN (Grow.alloc (Grow.refl _ W) _) _) hzz (Nat.le_refl _) (three_some W _ _ _ _ _) _ _ _).1
    · obtain ⟨_, a2, a3⟩ := lay_tok ((H2.out (.cells #[.int .u8 0, .string ⟨#[]⟩, .int .i64 0] 89)).drewN nq) hhi (Grow.drewN (Grow.alloc (Grow.refl _ W) _) _) hzz (Nat.le_refl _) (three_some W _ _ _ _ _) (.int .u8 5) (.string ⟨#[]⟩) (.int .i64 p)
      have hN : nextY s p = ((⟨5, [], p⟩, 0), p) := by unfold nextY; rw [if_pos HR.out]
      unfold NxP
      rw [hN]
      exact ⟨rfl, a2, a3⟩
  · have hj : s[p].toNat < 256 := s[p].toNat_lt
    obtain ⟨R, hR⟩ : ∃ R, s.extract p s.size = R := ⟨_, rfl⟩
    have HRS := Lib.hid (show R = bs (restL s p) by rw [← hR]; exact rest_bs s p (by omega))
    have h0 : 0 < R.size := by rw [← hR, ByteArray.size_extract]; omega
    have hRc : R = bs (s[p] :: restL s (p + 1)) := by rw [← restL_cons s p hp]; exact HRS.out
    have hc : R[0] = s[p] := first_bs hRc h0
    have hRl : R.toList = s[p] :: restL s (p + 1) := by rw [hRc, ByteArray.toList_eq, bs_toList]
    have e1 : (R.toList == []) = false := by rw [hRl]; rfl
    have e2 : R.toList.isEmpty = false := by rw [hRl]; rfl
    have e3 : R.toList = [] ↔ False := by rw [hRl]; simp
    clear hRc hRl
    have hcell : ∀ o v, T[s[p].toNat]? = some v → (W.alloc o).cell? ⟨S, 2 + s[p].toNat, none⟩ = some v := fun o v hv => (H2.out o).r _ v hv
    obtain ⟨v, hv⟩ : ∃ v, T[s[p].toNat]? = some v := ⟨_, List.getElem?_eq_getElem (by rw [H.out.d.n]; exact hj)⟩
    have c3 := fun o => hcell o v hv
    clear hcell
    go_enter Tryd.func62, Tryd.ntmps62
    go_wp2_with fail
    go_quiet (fail)
    go_wp2_with fail
    go_quiet (fail)
    have hrd := rd_case H.out.d s p hp hs
    rw [hv, hR] at hrd
    obtain ⟨k, n, e, hk⟩ : ∃ k n e, tok1 KK (restL s p) = (k, n, e) := ⟨_, _, _, rfl⟩
    have hlen : (restL s p).length = s.size - p := by unfold restL; simp
    have hRz : R.size = s.size - p := by rw [← hR, ByteArray.size_extract]; omega
    have hn : n ≤ R.size ∧ (e ≠ 0 → k = 0 ∧ n = 0) := by
      rw [hRz, ← hlen]
      have := tok1_bnd (restL s p) (by rw [hlen]; omega)
      rw [hk] at this
      exact this
    have HN := Lib.hid (show nextY s p = ((⟨k, (restL s p).take n, p⟩, e), p + n) by unfold nextY; rw [if_neg (by rw [restL_cons s p hp]; simp), hk])
    rw [hk] at hrd
    have n2 : (n : Int) ≤ (R.size : Int) := by omega
    have n3 : (0 : Int) ≤ (n : Int) := by omega
    have n4 : (p : Int) + (n : Int) ≤ 9223372036854775806 := by omega
    have n5 : (0 : Int) ≤ (p : Int) + (n : Int) := by omega
    have n6 : R.size + p ≤ s.size := by omega
    clear hlen hRz hc h0 e1 e2 e3
    rcases hrd with ⟨B, hB, hcall⟩ | ⟨B, hB, hcall⟩ | ⟨hB, hk2⟩
    · obtain rfl := Option.some.inj hB
      have HC := Lib.hid hcall
      clear hcall hB c3 hv
      unfold runV
      have heq := fun W => eq_fn (.func 88) #[] #[.pointer (some ⟨B, 0, none⟩)] W
      go_wp2_with fail
      refine (HC.out _ ((H2.out _).drewN _).d (by simp; omega)).mono ?_
      rintro e' w1 ⟨rfl, hb1⟩
      have hs1 := ((H2.out _).drewN _).keep (fun b h => hb1.block b (by simp; omega)) hb1.size
      have g0 := hs1.a
      have g1 := hs1.f
      have r0 : w1.cell? ⟨W.heap.size, 0, none⟩ = some (.int .u8 0) := (hb1.cell (p := ⟨W.heap.size, 0, none⟩) (by simp)).trans (by simp)
      have r1 : w1.cell? ⟨W.heap.size, 1, none⟩ = some (.string ⟨#[]⟩) := (hb1.cell (p := ⟨W.heap.size, 1, none⟩) (by simp)).trans (by simp)
      have r2 : w1.cell? ⟨W.heap.size, 2, none⟩ = some (.int .i64 0) := (hb1.cell (p := ⟨W.heap.size, 2, none⟩) (by simp)).trans (by simp)
      have f0 : w1.frozen? ⟨W.heap.size, 0, none⟩ = false := (hb1.frozen (p := ⟨W.heap.size, 0, none⟩) (by simp)).trans (by simp)
      have f1 : w1.frozen? ⟨W.heap.size, 1, none⟩ = false := (hb1.frozen (p := ⟨W.heap.size, 1, none⟩) (by simp)).trans (by simp)
      have f2 : w1.frozen? ⟨W.heap.size, 2, none⟩ = false := (hb1.frozen (p := ⟨W.heap.size, 2, none⟩) (by simp)).trans (by simp)
      have hz1 : W.heap.size < w1.heap.size := by have := hb1.size; simp at this; omega
      have HB1 := Lib.hid (show Below W.heap.size W w1 from (Below.drewN ((Below.refl _ W).alloc (Nat.le_refl _) _) _).trans (hb1.mono (by simp)))
      have HS1 := Lib.hid hs1
      have ga := fun o => (scn_alloc HS1.out o).a
      have gf := fun o => (scn_alloc HS1.out o).f
      clear hs1 hb1 c0 c1 heq
      unfold tup
      go_wp2_with fail
      go_region
      all_goals (go_wp2_with fail)
      have hcut : R.extract 0 n = bs ((restL s p).take n) := by
        rw [HRS.out]; exact cut_bs s p n (by have := tok1_bnd (restL s p) (by rw [restL_cons s p hp]; simp); rw [hk] at this; exact this.1)
      obtain ⟨a1, a2, a3⟩ := next_fin (n := n) HS1.out hhi HB1.out hzz hz1 (by omega) r0 r1 r2 (.cells #[.int .u8 k, .string (R.extract 0 n), .int .i64 p] 89) (.int .u8 k) (.string (R.extract 0 n)) (.int .i64 p)
      refine bodyPost_ret (v := .tuple #[.agg #[.int .u8 k, .string (R.extract 0 n), .int .i64 p], .int .i64 e]) (res_next (b := W.heap.size) a1 rfl rfl) rfl ?_
      unfold NxP
      rw [HN.out, hcut]
      rw [hcut] at a2 a3
      exact ⟨rfl, a2, a3⟩
    · obtain rfl := Option.some.inj hB
      have HC := Lib.hid hcall
      clear hcall hB c3 hv
      unfold lonV
      have heq := fun W => eq_fn (.func 92) #[] #[.pointer (some ⟨B, 0, none⟩)] W
      go_wp2_with fail
      refine (HC.out _ ((H2.out _).drewN _).d (by simp; omega)).mono ?_
      rintro e' w1 ⟨rfl, hb1⟩
      have hs1 := ((H2.out _).drewN _).keep (fun b h => hb1.block b (by simp; omega)) hb1.size
      have g0 := hs1.a
      have g1 := hs1.f
      have r0 : w1.cell? ⟨W.heap.size, 0, none⟩ = some (.int .u8 0) := (hb1.cell (p := ⟨W.heap.size, 0, none⟩) (by simp)).trans (by simp)
      have r1 : w1.cell? ⟨W.heap.size, 1, none⟩ = some (.string ⟨#[]⟩) := (hb1.cell (p := ⟨W.heap.size, 1, none⟩) (by simp)).trans (by simp)
      have r2 : w1.cell? ⟨W.heap.size, 2, none⟩ = some (.int .i64 0) := (hb1.cell (p := ⟨W.heap.size, 2, none⟩) (by simp)).trans (by simp)
      have f0 : w1.frozen? ⟨W.heap.size, 0, none⟩ = false := (hb1.frozen (p := ⟨W.heap.size, 0, none⟩) (by simp)).trans (by simp)
      have f1 : w1.frozen? ⟨W.heap.size, 1, none⟩ = false := (hb1.frozen (p := ⟨W.heap.size, 1, none⟩) (by simp)).trans (by simp)
      have f2 : w1.frozen? ⟨W.heap.size, 2, none⟩ = false := (hb1.frozen (p := ⟨W.heap.size, 2, none⟩) (by simp)).trans (by simp)
      have hz1 : W.heap.size < w1.heap.size := by have := hb1.size; simp at this; omega
      have HB1 := Lib.hid (show Below W.heap.size W w1 from (Below.drewN ((Below.refl _ W).alloc (Nat.le_refl _) _) _).trans (hb1.mono (by simp)))
      have HS1 := Lib.hid hs1
      have ga := fun o => (scn_alloc HS1.out o).a
      have gf := fun o => (scn_alloc HS1.out o).f
      clear hs1 hb1 c0 c1 heq
      unfold tup
      go_wp2_with fail
      go_region
      all_goals (go_wp2_with fail)
      have hcut : R.extract 0 n = bs ((restL s p).take n) := by
        rw [HRS.out]; exact cut_bs s p n (by have := tok1_bnd (restL s p) (by rw [restL_cons s p hp]; simp); rw [hk] at this; exact this.1)
      obtain ⟨a1, a2, a3⟩ := next_fin (n := n) HS1.out hhi HB1.out hzz hz1 (by omega) r0 r1 r2 (.cells #[.int .u8 k, .string (R.extract 0 n), .int .i64 p] 89) (.int .u8 k) (.string (R.extract 0 n)) (.int .i64 p)
      refine bodyPost_ret (v := .tuple #[.agg #[.int .u8 k, .string (R.extract 0 n), .int .i64 p], .int .i64 e]) (res_next (b := W.heap.size) a1 rfl rfl) rfl ?_
      unfold NxP
      rw [HN.out, hcut]
      rw [hcut] at a2 a3
      exact ⟨rfl, a2, a3⟩
    · obtain rfl := Option.some.inj hB
      have hkk : (k, n, e) = (0, 0, 40) := hk2
      obtain ⟨rfl, rfl, rfl⟩ : k = 0 ∧ n = 0 ∧ e = 40 := by simpa using hkk
      have heq := eq_nil
      clear hk2 hkk c3 hv hB
      go_wp2_with fail
      refine bodyPost_ret (v := .tuple #[.agg #[.int .u8 0, .string ⟨#[]⟩, .int .i64 p], .int .i64 40]) (res_next (b := W.heap.size) ?_ rfl rfl) rfl ?_
      · exact (lay_tok ((H2.out _).drewN _) hhi (Grow.drewN (Grow.alloc (Grow.refl _ W) _) _) hzz (Nat.le_refl _) (three_some W _ _ _ _ _) _ _ _).1
      · obtain ⟨_, a2, a3⟩ := lay_tok ((H2.out (.cells #[.int .u8 0, .string ⟨#[]⟩, .int .i64 0] 89)).drewN _) hhi (Grow.drewN (Grow.alloc (Grow.refl _ W) _) _) hzz (Nat.le_refl _) (three_some W _ _ _ _ _) (.int .u8 0) (.string ⟨#[]⟩) (.int .i64 p)
        unfold NxP
        rw [HN.out]
        exact ⟨rfl, a2, a3⟩
end Go.Proofs.YtkeckecdhcknhaaDoor.Lx

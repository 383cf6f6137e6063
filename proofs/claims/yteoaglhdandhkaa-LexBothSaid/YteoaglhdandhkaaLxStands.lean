/-
  LexStands: every token stands at its place.
-/
import Derived.Test.YteoaglhdandhkaaLxWrong
namespace Go.Proofs.Yteoaglhdandhkaa.Lx
open Go Go.RowKit Go.Shelf Go.Proofs.Yteoaglhdandhkaa.Fm
set_option linter.unusedVariables false
set_option linter.unusedSimpArgs false
/-- Where the tokens from number i on begin to be read. -/
def StR (s : ByteArray) (i p : Nat) : Prop := (i < (ysL s).length ∧ p ≤ s.size ∧ (ysL s).drop i = toks KK p (restL s p)) ∨ (i = (ysL s).length ∧ p = s.size)
theorem skip_to (s : ByteArray) : ∀ (m p : Nat), s.size - p ≤ m → p ≤ s.size → ∃ q, p ≤ q ∧ q ≤ s.size ∧ (restL s p).dropWhile blk = restL s q ∧ ∀ j, p ≤ j → (hj : j < q) → (hs : j < s.size) → blk s[j] = true
  | 0, p, hm, hp => ⟨p, Nat.le_refl _, hp, by rw [restL_nil s p (by omega)]; rfl, fun j h1 h2 => by omega⟩
  | m + 1, p, hm, hp => by
    rcases Nat.lt_or_ge p s.size with h | h
    · have hr := restL_cons s p h
      cases hb : blk s[p] with
      | false => exact ⟨p, Nat.le_refl _, hp, by rw [hr, dw_not hb], fun j h1 h2 => by omega⟩
      | true =>
        obtain ⟨q, h1, h2, h3, h4⟩ := skip_to s m (p + 1) (by omega) h
        refine ⟨q, by omega, h2, by rw [hr, dw_blk hb, h3], fun j h5 h6 h7 => ?_⟩
        rcases Nat.lt_or_ge j (p + 1) with h8 | h8
        · obtain rfl : j = p := by omega
          exact hb
        · exact h4 j h8 h6 h7
    · exact ⟨p, Nat.le_refl _, hp, by rw [restL_nil s p h]; rfl, fun j h1 h2 => by omega⟩
theorem ext_bs (s : ByteArray) (a n : Nat) (h : a + n ≤ s.size) : s.extract a (a + n) = bs ((restL s a).take n) := by
  obtain ⟨d⟩ := s
  unfold bs restL
  apply ByteArray.ext
  apply Array.ext'
  rw [ByteArray.data_extract]
  have h : a + n ≤ d.size := h
  simp
theorem bs_size (l : Bs) : (bs l).size = l.length := by unfold bs; simp [ByteArray.size]
/-- One token. -/
theorem st_step {s : ByteArray} {i p : Nat} (h : StR s i p) (he : errs (ysL s) = false) (hi : i < (tgL s).length) : ∃ k a : Nat, ∃ x : ByteArray, (tgL s)[i] = ⟨(k : Int), x, (a : Int)⟩ ∧ p ≤ a ∧ a + x.size ≤ s.size ∧ s.extract a (a + x.size) = x ∧
    (∀ j, p ≤ j → (hj : j < a) → (hs : j < s.size) → blk s[j] = true) ∧ (k = 5 ↔ i + 1 = (tgL s).length) ∧ (x.size = 0 ↔ k = 5) ∧ StR s (i + 1) (a + x.size) := by
  have hlen : (tgL s).length = (ysL s).length := by unfold tgL tksL; simp
  rw [hlen] at hi ⊢
  rcases h with ⟨_, hp, hd⟩ | ⟨h, _⟩
  · obtain ⟨q, h1, h2, h3, h4⟩ := skip_to s _ p (Nat.le_refl _) hp
    rw [toks_next s p q h3 h1 h2] at hd
    have hi2 : (ysL s)[i]? = some (nextY s q).1 := by
      have := congrArg (fun l => l[0]?) hd
      simpa using this
    have hmem : (nextY s q).1 ∈ ysL s := List.mem_of_getElem? hi2
    have h0 := errs_all he _ hmem
    have hg : ∀ hh : i < (tgL s).length, (tgL s)[i] = toG (nextY s q).1.1 := fun hh => by
      have : (tgL s)[i]? = some (toG (nextY s q).1.1) := by unfold tgL tksL; rw [List.getElem?_map, List.getElem?_map, hi2]; rfl
      exact (List.getElem?_eq_some_iff.1 this).2
    by_cases hn : restL s q = []
    · have hy : nextY s q = ((⟨5, [], q⟩, 0), q) := by unfold nextY; rw [if_pos hn]
      rw [hy] at hd hg
      have hq : q = s.size := by
        have := congrArg List.length hn
        rw [restL_len] at this
        simp at this; omega
      have hl : i + 1 = (ysL s).length := drop_last (hd.trans (by rw [if_neg (by simp)]))
      refine ⟨5, q, bs [], hg _, h1, by rw [bs_size]; simp; omega, by rw [bs_size]; simp; rfl, h4, by simp [hl], by rw [bs_size]; simp, ?_⟩
      exact .inr ⟨hl, by rw [bs_size]; simp; omega⟩
    · have hy : nextY s q = ((⟨(tok1 KK (restL s q)).1, (restL s q).take (tok1 KK (restL s q)).2.1, q⟩, (tok1 KK (restL s q)).2.2), q + (tok1 KK (restL s q)).2.1) := by unfold nextY; rw [if_neg hn]
      rw [hy] at hd hg h0
      have hb := tok1_bd KK h0
      rw [restL_len] at hb
      have hk5 : (tok1 KK (restL s q)).1 ≠ 5 := by omega
      have hsz : (bs ((restL s q).take (tok1 KK (restL s q)).2.1)).size = (tok1 KK (restL s q)).2.1 := by rw [bs_size, List.length_take, restL_len]; omega
      have hd2 : (ysL s).drop (i + 1) = toks KK (q + (tok1 KK (restL s q)).2.1) (restL s (q + (tok1 KK (restL s q)).2.1)) := drop_next hd (if_pos ⟨h0, hk5⟩)
      have hne : (ysL s).drop (i + 1) ≠ [] := by
        rw [hd2, toks_eq]; split
        · simp
        · split <;> simp
      have hlt : i + 1 < (ysL s).length := by
        rcases Nat.lt_or_ge (i + 1) (ysL s).length with h | h
        · exact h
        · exact absurd (List.drop_eq_nil_iff.2 h) hne
      refine ⟨_, q, _, hg _, h1, by rw [hsz]; omega, by rw [hsz]; exact ext_bs s q _ (by omega), h4, ⟨fun h => absurd h hk5, fun h => absurd h (by have := hlen; omega)⟩, ⟨fun h => absurd h (by rw [hsz]; omega), fun h => absurd h hk5⟩, ?_⟩
      rw [hsz]
      exact .inl ⟨hlt, by omega, hd2⟩
  · omega
def SoR (s : ByteArray) (g : Nat) (w : World) (v i : Value) (wr : World) : Prop := ∃ q p : Nat, i = .int .i64 (q : Int) ∧ v = .int .i64 (p : Int) ∧ q ≤ (tgL s).length ∧ p ≤ s.size ∧ StR s q p ∧ Below w.heap.size w wr ∧ TsV wr (some ⟨g, 0, none⟩) (tgL s)
def SiR (a p0 : Nat) (v : Value) : Prop := ∃ p : Nat, v = .int .i64 (p : Int) ∧ p0 ≤ p ∧ p ≤ a
theorem st_le {s : ByteArray} {i p : Nat} (h : StR s i p) : p ≤ s.size := by rcases h with ⟨_, h, _⟩ | ⟨_, h⟩ <;> omega
set_option maxHeartbeats 4000000 in
set_option maxRecDepth 20000 in
theorem lex_stands_c (s : ByteArray) (w : World) (hs : s.size ≤ 140737488351232) : Calls Try.prog 5 #[.string s] w fun e w' => e = .returned (.bool true) ∧ Below w.heap.size w w' := by
  have HA := Lib.hid awake_c
  by_cases hlong : 3000 < s.size
  · have d1 : decide (3000 < s.size) = true := decide_eq_true hlong
    have d2 : decide (3000 < (s.size : Int)) = true := decide_eq_true (by omega)
    go_enter Try.func5, Try.ntmps5
    go_wp2_with ((refine (HA.out _).mono ?_; rintro e w1 ⟨rfl, hb1⟩))
    go_ret
    exact ⟨rfl, hb1⟩
  · have d1 : decide (3000 < s.size) = false := decide_eq_false hlong
    have d2 : decide (3000 < (s.size : Int)) = false := decide_eq_false (by omega)
    cases he : errs (ysL s) with
    | true =>
      obtain ⟨z, hz, hz2, _⟩ := err_last s he
      have HL := Lib.hid (fun w => lex_er s w (by omega) z hz (by omega))
      have dz : ((z.2 : Int) != 0) = true := by simp; omega
      have dz2 : ((z.2 : Int) == 0) = false := by simp; omega
      clear hz hz2 he
      go_enter Try.func5, Try.ntmps5
      go_wp2_with (first
        | (go_at_call 9; refine (HA.out _).mono ?_; rintro e w1 ⟨rfl, hb1⟩)
        | (go_at_call 13; refine (HL.out _).mono ?_; rintro e w2 ⟨rfl, hb2⟩))
      go_ret
      exact ⟨rfl, hb1.trans (hb2.mono hb1.size)⟩
    | false =>
      have HL := Lib.hid (fun w => lex_ok s w (by omega) he)
      have HE := Lib.hid he
      have hln := tgL_len s
      have hsl : s.size ≤ 3000 := by omega
      have hl0 : 0 < (tgL s).length := by
        obtain ⟨zs, y, h1, _⟩ := toks_ends KK 0 s.data.toList
        unfold tgL tksL ysL
        rw [List.length_map, List.length_map, h1]; simp
      have H0 := Lib.hid (show StR s 0 0 from .inl ⟨by unfold tgL tksL at hl0; simpa using hl0, Nat.zero_le _, by unfold ysL restL; rw [List.drop_zero, List.drop_zero]⟩)
      clear he hlong hl0
      go_enter Try.func5, Try.ntmps5
      go_wp2_with fail
      refine (HA.out _).mono ?_
      rintro e w1 ⟨rfl, hb1⟩
      go_wp2_with fail
      refine (HL.out _).mono ?_
      rintro e w2 ⟨g, cap, rfl, hb2, hg, ht⟩
      have HB2 := Lib.hid (hb1.trans (hb2.mono hb1.size))
      have HT := Lib.hid ht
      clear hb1 hb2 ht hg d1 d2
      go_wp2_with fail
      go_loopw [6, 7] (fun v i wr => SoR s g w v i wr) (fun _ i _ => (tgL s).length - (intOf i).toNat)
      case atStart => exact ⟨0, 0, rfl, rfl, Nat.zero_le _, Nat.zero_le _, H0.out, HB2.out, HT.out⟩
      case round =>
        clear H0 HB2 HT
        obtain ⟨i, p, rfl, rfl, hi, hp, hst, hbr, htr⟩ := hrel
        by_cases hlt : i < (tgL s).length
        · obtain ⟨k, a, x, hti, h1, h2, h3, h4, h5, h6, h7⟩ := st_step hst HE.out hlt
          obtain ⟨g', o, hgo, hgl, c0, c1, c2⟩ := htr.get hlt
          injection hgo with hgo
          injection hgo with hgo hgo2
          subst hgo; subst hgo2
          rw [hti] at c0 c1 c2
          rw [Nat.zero_add] at c0 c1 c2
          have HBR := Lib.hid hbr
          have HTR := Lib.hid htr
          have H4 := Lib.hid h4
          have H7 := Lib.hid h7
          obtain ⟨b, hb⟩ : ∃ b, decide (k = 5) = b := ⟨_, rfl⟩
          have b1 : ((k : Int) == 5) = b := by rw [← hb, Bool.eq_iff_iff]; simp; omega
          have b2 : ((i : Int) + 1 == ((tgL s).length : Int)) = b := by rw [← hb, Bool.eq_iff_iff]; simp; omega
          have b3 : (x.toList == []) = b := by
            rw [← hb, Bool.eq_iff_iff, ByteArray.toList_eq]; simp
            rw [← h6]
            constructor
            · intro h
              have : x.data.size = 0 := by rw [h]; rfl
              exact this
            · intro h; exact Array.eq_empty_of_size_eq_zero h
          have b4 : x.toList.isEmpty = b := by
            rw [← b3]; cases x.toList <;> rfl
          have n0 : (0 : Int) ≤ (i : Int) := by omega
          have n1 : (i : Int) < ((tgL s).length : Int) := by omega
          have m0 : decide ((a : Int) < (p : Int)) = false := decide_eq_false (by omega)
          have m1 : decide (a < p) = false := decide_eq_false (by omega)
          have m2 : (0 : Int) ≤ (a : Int) + (x.size : Int) := by omega
          have m3 : (a : Int) + (x.size : Int) ≤ (s.size : Int) := by omega
          have m4 : decide ((s.size : Int) < (a : Int) + (x.size : Int)) = false := decide_eq_false (by omega)
          have m5 : (a : Int) ≤ (a : Int) + (x.size : Int) := by omega
          have m6 : (0 : Int) ≤ (a : Int) := by omega
          have m8 : IntKind.i64.wrap ((a : Int) + (x.size : Int)) = (a : Int) + (x.size : Int) := IntWalk.i64_in _ (by omega)
          have m10 : IntKind.i64.wrap ((i : Int) + 1) = (i : Int) + 1 := IntWalk.i64_in _ (by omega)
          have m9 : ((a : Int) + (x.size : Int)).toNat = a + x.size := by omega
          clear hst hbr htr hti h4 h7 hb
          go_wp2_with fail
          refine wp_region_S (fun w' => w'.cell? ⟨wr.heap.size, 0, none⟩ = some (.int .u8 (k : Int)) ∧ w'.cell? ⟨wr.heap.size, 1, none⟩ = some (.string x) ∧ w'.cell? ⟨wr.heap.size, 2, none⟩ = some (.int .i64 (a : Int))) [] 50 #[false, false, false, false, false, false, false, false, false, false, false, false, false, false, false, false, false, false, false, false, false, false, false, false, false, false, false, false, false, false, false, false, false, false, false, false, false, false, false, false, false, false, false, false, false, false, false, false, false, false] (by kernel_rfl) (by kernel_rfl) (by kernel_rfl)
            (by rw [World.cell?_drew, World.cell?_drew, World.cell?_drew]; exact ⟨by rw [World.cell?_alloc_at _ _ _ _ rfl]; rfl, by rw [World.cell?_alloc_at _ _ _ _ rfl]; rfl, by rw [World.cell?_alloc_at _ _ _ _ rfl]; rfl⟩) (fun hHeld => ?_)
          refine wpAnyS_take (i := 0) (oi := ⟨some 32, _, _, _, _, _⟩) (v := .pointer (some ⟨wr.heap.size, 2, none⟩)) rfl (by kernel_rfl) (by kernel_rfl) (by kernel_rfl) (by kernel_rfl) (fun _ _ _ h => Norm.panic h) (Or.inl ⟨by rfl, ?_⟩) (by assumption) ?_
          · intro w' hSw
            obtain ⟨k1, k2, k3⟩ := hSw
            go_simp
          simp only [Act.put, List.setIfInBounds_toArray, List.set_cons_zero, List.set_cons_succ]
          refine wpAnyS_take (i := 1) (oi := ⟨some 33, _, _, _, _, _⟩) (v := .int .i64 (a : Int)) rfl (by kernel_rfl) (by kernel_rfl) (by kernel_rfl) (by kernel_rfl) (fun _ _ _ h => Norm.panic h) (Or.inl ⟨by rfl, ?_⟩) (by assumption) ?_
          · intro w' hSw
            obtain ⟨k1, k2, k3⟩ := hSw
            go_simp
          simp only [Act.put, List.setIfInBounds_toArray, List.set_cons_zero, List.set_cons_succ]
          refine wpAnyS_take (i := 2) (oi := ⟨some 34, _, _, _, _, _⟩) (v := .int .i64 (p : Int)) rfl (by kernel_rfl) (by kernel_rfl) (by kernel_rfl) (by kernel_rfl) (fun _ _ _ h => Norm.panic h) (Or.inl ⟨by rfl, ?_⟩) (by assumption) ?_
          · intro w' hSw
            obtain ⟨k1, k2, k3⟩ := hSw
            go_simp
          simp only [Act.put, List.setIfInBounds_toArray, List.set_cons_zero, List.set_cons_succ]
          refine wpAnyS_take (i := 3) (oi := ⟨some 35, _, _, _, _, _⟩) (v := .bool false) rfl (by kernel_rfl) (by kernel_rfl) (by kernel_rfl) (by kernel_rfl) (fun _ _ _ h => Norm.panic h) (Or.inl ⟨by rfl, ?_⟩) (by assumption) ?_
          · intro w' hSw
            obtain ⟨k1, k2, k3⟩ := hSw
            go_simp
          simp only [Act.put, List.setIfInBounds_toArray, List.set_cons_zero, List.set_cons_succ]
          refine wpAnyS_take (i := 4) (oi := ⟨some 36, _, _, _, _, _⟩) (v := .bool false) rfl (by kernel_rfl) (by kernel_rfl) (by kernel_rfl) (by kernel_rfl) (fun _ _ _ h => Norm.panic h) (Or.inl ⟨by rfl, ?_⟩) (by assumption) ?_
          · intro w' hSw
            obtain ⟨k1, k2, k3⟩ := hSw
            go_simp
          simp only [Act.put, List.setIfInBounds_toArray, List.set_cons_zero, List.set_cons_succ]
          refine wpAnyS_take (i := 5) (oi := ⟨some 37, _, _, _, _, _⟩) (v := .pointer (some ⟨wr.heap.size, 2, none⟩)) rfl (by kernel_rfl) (by kernel_rfl) (by kernel_rfl) (by kernel_rfl) (fun _ _ _ h => Norm.panic h) (Or.inl ⟨by rfl, ?_⟩) (by assumption) ?_
          · intro w' hSw
            obtain ⟨k1, k2, k3⟩ := hSw
            go_simp
          simp only [Act.put, List.setIfInBounds_toArray, List.set_cons_zero, List.set_cons_succ]
          refine wpAnyS_take (i := 6) (oi := ⟨some 38, _, _, _, _, _⟩) (v := .int .i64 (a : Int)) rfl (by kernel_rfl) (by kernel_rfl) (by kernel_rfl) (by kernel_rfl) (fun _ _ _ h => Norm.panic h) (Or.inl ⟨by rfl, ?_⟩) (by assumption) ?_
          · intro w' hSw
            obtain ⟨k1, k2, k3⟩ := hSw
            go_simp
          simp only [Act.put, List.setIfInBounds_toArray, List.set_cons_zero, List.set_cons_succ]
          refine wpAnyS_take (i := 7) (oi := ⟨some 39, _, _, _, _, _⟩) (v := .pointer (some ⟨wr.heap.size, 1, none⟩)) rfl (by kernel_rfl) (by kernel_rfl) (by kernel_rfl) (by kernel_rfl) (fun _ _ _ h => Norm.panic h) (Or.inl ⟨by rfl, ?_⟩) (by assumption) ?_
          · intro w' hSw
            obtain ⟨k1, k2, k3⟩ := hSw
            go_simp
          simp only [Act.put, List.setIfInBounds_toArray, List.set_cons_zero, List.set_cons_succ]
          refine wpAnyS_take (i := 8) (oi := ⟨some 40, _, _, _, _, _⟩) (v := .string x) rfl (by kernel_rfl) (by kernel_rfl) (by kernel_rfl) (by kernel_rfl) (fun _ _ _ h => Norm.panic h) (Or.inl ⟨by rfl, ?_⟩) (by assumption) ?_
          · intro w' hSw
            obtain ⟨k1, k2, k3⟩ := hSw
            go_simp
          simp only [Act.put, List.setIfInBounds_toArray, List.set_cons_zero, List.set_cons_succ]
          refine wpAnyS_take (i := 9) (oi := ⟨some 41, _, _, _, _, _⟩) (v := .int .i64 (x.size : Int)) rfl (by kernel_rfl) (by kernel_rfl) (by kernel_rfl) (by kernel_rfl) (fun _ _ _ h => Norm.panic h) (Or.inl ⟨by rfl, ?_⟩) (by assumption) ?_
          · intro w' hSw
            obtain ⟨k1, k2, k3⟩ := hSw
            go_simp
          simp only [Act.put, List.setIfInBounds_toArray, List.set_cons_zero, List.set_cons_succ]
          refine wpAnyS_take (i := 10) (oi := ⟨some 42, _, _, _, _, _⟩) (v := .int .i64 ((a : Int) + (x.size : Int))) rfl (by kernel_rfl) (by kernel_rfl) (by kernel_rfl) (by kernel_rfl) (fun _ _ _ h => Norm.panic h) (Or.inl ⟨by rfl, ?_⟩) (by assumption) ?_
          · intro w' hSw
            obtain ⟨k1, k2, k3⟩ := hSw
            go_simp
          simp only [Act.put, List.setIfInBounds_toArray, List.set_cons_zero, List.set_cons_succ]
          refine wpAnyS_take (i := 11) (oi := ⟨some 43, _, _, _, _, _⟩) (v := .string s) rfl (by kernel_rfl) (by kernel_rfl) (by kernel_rfl) (by kernel_rfl) (fun _ _ _ h => Norm.panic h) (Or.inl ⟨by rfl, ?_⟩) (by assumption) ?_
          · intro w' hSw
            obtain ⟨k1, k2, k3⟩ := hSw
            go_simp
          simp only [Act.put, List.setIfInBounds_toArray, List.set_cons_zero, List.set_cons_succ]
          refine wpAnyS_take (i := 12) (oi := ⟨some 44, _, _, _, _, _⟩) (v := .int .i64 (s.size : Int)) rfl (by kernel_rfl) (by kernel_rfl) (by kernel_rfl) (by kernel_rfl) (fun _ _ _ h => Norm.panic h) (Or.inl ⟨by rfl, ?_⟩) (by assumption) ?_
          · intro w' hSw
            obtain ⟨k1, k2, k3⟩ := hSw
            go_simp
          simp only [Act.put, List.setIfInBounds_toArray, List.set_cons_zero, List.set_cons_succ]
          refine wpAnyS_take (i := 13) (oi := ⟨some 45, _, _, _, _, _⟩) (v := .bool false) rfl (by kernel_rfl) (by kernel_rfl) (by kernel_rfl) (by kernel_rfl) (fun _ _ _ h => Norm.panic h) (Or.inl ⟨by rfl, ?_⟩) (by assumption) ?_
          · intro w' hSw
            obtain ⟨k1, k2, k3⟩ := hSw
            go_simp
          simp only [Act.put, List.setIfInBounds_toArray, List.set_cons_zero, List.set_cons_succ]
          refine wpAnyS_take (i := 14) (oi := ⟨some 46, _, _, _, _, _⟩) (v := .bool false) rfl (by kernel_rfl) (by kernel_rfl) (by kernel_rfl) (by kernel_rfl) (fun _ _ _ h => Norm.panic h) (Or.inl ⟨by rfl, ?_⟩) (by assumption) ?_
          · intro w' hSw
            obtain ⟨k1, k2, k3⟩ := hSw
            go_simp
          simp only [Act.put, List.setIfInBounds_toArray, List.set_cons_zero, List.set_cons_succ]
          refine wpAnyS_take (i := 15) (oi := ⟨some 47, _, _, _, _, _⟩) (v := .bool false) rfl (by kernel_rfl) (by kernel_rfl) (by kernel_rfl) (by kernel_rfl) (fun _ _ _ h => Norm.panic h) (Or.inl ⟨by rfl, ?_⟩) (by assumption) ?_
          · intro w' hSw
            obtain ⟨k1, k2, k3⟩ := hSw
            go_simp
          simp only [Act.put, List.setIfInBounds_toArray, List.set_cons_zero, List.set_cons_succ]
          refine wpAnyS_take (i := 16) (oi := ⟨some 48, _, _, _, _, _⟩) (v := .string s) rfl (by kernel_rfl) (by kernel_rfl) (by kernel_rfl) (by kernel_rfl) (fun _ _ _ h => Norm.panic h) (Or.inl ⟨by rfl, ?_⟩) (by assumption) ?_
          · intro w' hSw
            obtain ⟨k1, k2, k3⟩ := hSw
            go_simp
          simp only [Act.put, List.setIfInBounds_toArray, List.set_cons_zero, List.set_cons_succ]
          refine wpAnyS_take (i := 17) (oi := ⟨some 49, _, _, _, _, _⟩) (v := .pointer (some ⟨wr.heap.size, 2, none⟩)) rfl (by kernel_rfl) (by kernel_rfl) (by kernel_rfl) (by kernel_rfl) (fun _ _ _ h => Norm.panic h) (Or.inl ⟨by rfl, ?_⟩) (by assumption) ?_
          · intro w' hSw
            obtain ⟨k1, k2, k3⟩ := hSw
            go_simp
          simp only [Act.put, List.setIfInBounds_toArray, List.set_cons_zero, List.set_cons_succ]
          refine wpAnyS_take (i := 18) (oi := ⟨some 50, _, _, _, _, _⟩) (v := .int .i64 (a : Int)) rfl (by kernel_rfl) (by kernel_rfl) (by kernel_rfl) (by kernel_rfl) (fun _ _ _ h => Norm.panic h) (Or.inl ⟨by rfl, ?_⟩) (by assumption) ?_
          · intro w' hSw
            obtain ⟨k1, k2, k3⟩ := hSw
            go_simp
          simp only [Act.put, List.setIfInBounds_toArray, List.set_cons_zero, List.set_cons_succ]
          refine wpAnyS_take (i := 19) (oi := ⟨some 51, _, _, _, _, _⟩) (v := .pointer (some ⟨wr.heap.size, 2, none⟩)) rfl (by kernel_rfl) (by kernel_rfl) (by kernel_rfl) (by kernel_rfl) (fun _ _ _ h => Norm.panic h) (Or.inl ⟨by rfl, ?_⟩) (by assumption) ?_
          · intro w' hSw
            obtain ⟨k1, k2, k3⟩ := hSw
            go_simp
          simp only [Act.put, List.setIfInBounds_toArray, List.set_cons_zero, List.set_cons_succ]
          refine wpAnyS_take (i := 20) (oi := ⟨some 52, _, _, _, _, _⟩) (v := .int .i64 (a : Int)) rfl (by kernel_rfl) (by kernel_rfl) (by kernel_rfl) (by kernel_rfl) (fun _ _ _ h => Norm.panic h) (Or.inl ⟨by rfl, ?_⟩) (by assumption) ?_
          · intro w' hSw
            obtain ⟨k1, k2, k3⟩ := hSw
            go_simp
          simp only [Act.put, List.setIfInBounds_toArray, List.set_cons_zero, List.set_cons_succ]
          refine wpAnyS_take (i := 21) (oi := ⟨some 53, _, _, _, _, _⟩) (v := .pointer (some ⟨wr.heap.size, 1, none⟩)) rfl (by kernel_rfl) (by kernel_rfl) (by kernel_rfl) (by kernel_rfl) (fun _ _ _ h => Norm.panic h) (Or.inl ⟨by rfl, ?_⟩) (by assumption) ?_
          · intro w' hSw
            obtain ⟨k1, k2, k3⟩ := hSw
            go_simp
          simp only [Act.put, List.setIfInBounds_toArray, List.set_cons_zero, List.set_cons_succ]
          refine wpAnyS_take (i := 22) (oi := ⟨some 54, _, _, _, _, _⟩) (v := .string x) rfl (by kernel_rfl) (by kernel_rfl) (by kernel_rfl) (by kernel_rfl) (fun _ _ _ h => Norm.panic h) (Or.inl ⟨by rfl, ?_⟩) (by assumption) ?_
          · intro w' hSw
            obtain ⟨k1, k2, k3⟩ := hSw
            go_simp
          simp only [Act.put, List.setIfInBounds_toArray, List.set_cons_zero, List.set_cons_succ]
          refine wpAnyS_take (i := 23) (oi := ⟨some 55, _, _, _, _, _⟩) (v := .int .i64 (x.size : Int)) rfl (by kernel_rfl) (by kernel_rfl) (by kernel_rfl) (by kernel_rfl) (fun _ _ _ h => Norm.panic h) (Or.inl ⟨by rfl, ?_⟩) (by assumption) ?_
          · intro w' hSw
            obtain ⟨k1, k2, k3⟩ := hSw
            go_simp
          simp only [Act.put, List.setIfInBounds_toArray, List.set_cons_zero, List.set_cons_succ]
          refine wpAnyS_take (i := 24) (oi := ⟨some 56, _, _, _, _, _⟩) (v := .int .i64 ((a : Int) + (x.size : Int))) rfl (by kernel_rfl) (by kernel_rfl) (by kernel_rfl) (by kernel_rfl) (fun _ _ _ h => Norm.panic h) (Or.inl ⟨by rfl, ?_⟩) (by assumption) ?_
          · intro w' hSw
            obtain ⟨k1, k2, k3⟩ := hSw
            go_simp
          simp only [Act.put, List.setIfInBounds_toArray, List.set_cons_zero, List.set_cons_succ]
          refine wpAnyS_take (i := 25) (oi := ⟨some 57, _, _, _, _, _⟩) (v := .string x) rfl (by kernel_rfl) (by kernel_rfl) (by kernel_rfl) (by kernel_rfl) (fun _ _ _ h => Norm.panic h) (Or.inl ⟨by rfl, ?_⟩) (by assumption) ?_
          · intro w' hSw
            obtain ⟨k1, k2, k3⟩ := hSw
            go_simp
          simp only [Act.put, List.setIfInBounds_toArray, List.set_cons_zero, List.set_cons_succ]
          refine wpAnyS_take (i := 26) (oi := ⟨some 58, _, _, _, _, _⟩) (v := .pointer (some ⟨wr.heap.size, 1, none⟩)) rfl (by kernel_rfl) (by kernel_rfl) (by kernel_rfl) (by kernel_rfl) (fun _ _ _ h => Norm.panic h) (Or.inl ⟨by rfl, ?_⟩) (by assumption) ?_
          · intro w' hSw
            obtain ⟨k1, k2, k3⟩ := hSw
            go_simp
          simp only [Act.put, List.setIfInBounds_toArray, List.set_cons_zero, List.set_cons_succ]
          refine wpAnyS_take (i := 27) (oi := ⟨some 59, _, _, _, _, _⟩) (v := .string x) rfl (by kernel_rfl) (by kernel_rfl) (by kernel_rfl) (by kernel_rfl) (fun _ _ _ h => Norm.panic h) (Or.inl ⟨by rfl, ?_⟩) (by assumption) ?_
          · intro w' hSw
            obtain ⟨k1, k2, k3⟩ := hSw
            go_simp
          simp only [Act.put, List.setIfInBounds_toArray, List.set_cons_zero, List.set_cons_succ]
          refine wpAnyS_take (i := 28) (oi := ⟨some 60, _, _, _, _, _⟩) (v := .bool false) rfl (by kernel_rfl) (by kernel_rfl) (by kernel_rfl) (by kernel_rfl) (fun _ _ _ h => Norm.panic h) (Or.inl ⟨by rfl, ?_⟩) (by assumption) ?_
          · intro w' hSw
            obtain ⟨k1, k2, k3⟩ := hSw
            go_simp
          simp only [Act.put, List.setIfInBounds_toArray, List.set_cons_zero, List.set_cons_succ]
          refine wpAnyS_take (i := 29) (oi := ⟨some 61, _, _, _, _, _⟩) (v := .bool false) rfl (by kernel_rfl) (by kernel_rfl) (by kernel_rfl) (by kernel_rfl) (fun _ _ _ h => Norm.panic h) (Or.inl ⟨by rfl, ?_⟩) (by assumption) ?_
          · intro w' hSw
            obtain ⟨k1, k2, k3⟩ := hSw
            go_simp
          simp only [Act.put, List.setIfInBounds_toArray, List.set_cons_zero, List.set_cons_succ]
          refine wpAnyS_take (i := 30) (oi := ⟨some 62, _, _, _, _, _⟩) (v := .bool false) rfl (by kernel_rfl) (by kernel_rfl) (by kernel_rfl) (by kernel_rfl) (fun _ _ _ h => Norm.panic h) (Or.inl ⟨by rfl, ?_⟩) (by assumption) ?_
          · intro w' hSw
            obtain ⟨k1, k2, k3⟩ := hSw
            go_simp
          simp only [Act.put, List.setIfInBounds_toArray, List.set_cons_zero, List.set_cons_succ]
          refine wpAnyS_take (i := 31) (oi := ⟨some 63, _, _, _, _, _⟩) (v := .pointer (some ⟨wr.heap.size, 0, none⟩)) rfl (by kernel_rfl) (by kernel_rfl) (by kernel_rfl) (by kernel_rfl) (fun _ _ _ h => Norm.panic h) (Or.inl ⟨by rfl, ?_⟩) (by assumption) ?_
          · intro w' hSw
            obtain ⟨k1, k2, k3⟩ := hSw
            go_simp
          simp only [Act.put, List.setIfInBounds_toArray, List.set_cons_zero, List.set_cons_succ]
          refine wpAnyS_take (i := 32) (oi := ⟨some 64, _, _, _, _, _⟩) (v := .int .u8 (k : Int)) rfl (by kernel_rfl) (by kernel_rfl) (by kernel_rfl) (by kernel_rfl) (fun _ _ _ h => Norm.panic h) (Or.inl ⟨by rfl, ?_⟩) (by assumption) ?_
          · intro w' hSw
            obtain ⟨k1, k2, k3⟩ := hSw
            go_simp
          simp only [Act.put, List.setIfInBounds_toArray, List.set_cons_zero, List.set_cons_succ]
          refine wpAnyS_take (i := 33) (oi := ⟨some 65, _, _, _, _, _⟩) (v := .bool b) rfl (by kernel_rfl) (by kernel_rfl) (by kernel_rfl) (by kernel_rfl) (fun _ _ _ h => Norm.panic h) (Or.inl ⟨by rfl, ?_⟩) (by assumption) ?_
          · intro w' hSw
            obtain ⟨k1, k2, k3⟩ := hSw
            go_simp
          simp only [Act.put, List.setIfInBounds_toArray, List.set_cons_zero, List.set_cons_succ]
          refine wpAnyS_take (i := 34) (oi := ⟨some 66, _, _, _, _, _⟩) (v := .int .i64 (i : Int)) rfl (by kernel_rfl) (by kernel_rfl) (by kernel_rfl) (by kernel_rfl) (fun _ _ _ h => Norm.panic h) (Or.inl ⟨by rfl, ?_⟩) (by assumption) ?_
          · intro w' hSw
            obtain ⟨k1, k2, k3⟩ := hSw
            go_simp
          simp only [Act.put, List.setIfInBounds_toArray, List.set_cons_zero, List.set_cons_succ]
          refine wpAnyS_take (i := 35) (oi := ⟨some 67, _, _, _, _, _⟩) (v := .int .i64 ((i : Int) + 1)) rfl (by kernel_rfl) (by kernel_rfl) (by kernel_rfl) (by kernel_rfl) (fun _ _ _ h => Norm.panic h) (Or.inl ⟨by rfl, ?_⟩) (by assumption) ?_
          · intro w' hSw
            obtain ⟨k1, k2, k3⟩ := hSw
            go_simp
          simp only [Act.put, List.setIfInBounds_toArray, List.set_cons_zero, List.set_cons_succ]
          refine wpAnyS_take (i := 36) (oi := ⟨some 68, _, _, _, _, _⟩) (v := .slice (some ⟨g, 0, none⟩) (tgL s).length cap) rfl (by kernel_rfl) (by kernel_rfl) (by kernel_rfl) (by kernel_rfl) (fun _ _ _ h => Norm.panic h) (Or.inl ⟨by rfl, ?_⟩) (by assumption) ?_
          · intro w' hSw
            obtain ⟨k1, k2, k3⟩ := hSw
            go_simp
          simp only [Act.put, List.setIfInBounds_toArray, List.set_cons_zero, List.set_cons_succ]
          refine wpAnyS_take (i := 37) (oi := ⟨some 69, _, _, _, _, _⟩) (v := .int .i64 ((tgL s).length : Int)) rfl (by kernel_rfl) (by kernel_rfl) (by kernel_rfl) (by kernel_rfl) (fun _ _ _ h => Norm.panic h) (Or.inl ⟨by rfl, ?_⟩) (by assumption) ?_
          · intro w' hSw
            obtain ⟨k1, k2, k3⟩ := hSw
            go_simp
          simp only [Act.put, List.setIfInBounds_toArray, List.set_cons_zero, List.set_cons_succ]
          refine wpAnyS_take (i := 38) (oi := ⟨some 70, _, _, _, _, _⟩) (v := .bool b) rfl (by kernel_rfl) (by kernel_rfl) (by kernel_rfl) (by kernel_rfl) (fun _ _ _ h => Norm.panic h) (Or.inl ⟨by rfl, ?_⟩) (by assumption) ?_
          · intro w' hSw
            obtain ⟨k1, k2, k3⟩ := hSw
            go_simp
          simp only [Act.put, List.setIfInBounds_toArray, List.set_cons_zero, List.set_cons_succ]
          refine wpAnyS_take (i := 39) (oi := ⟨some 71, _, _, _, _, _⟩) (v := .bool false) rfl (by kernel_rfl) (by kernel_rfl) (by kernel_rfl) (by kernel_rfl) (fun _ _ _ h => Norm.panic h) (Or.inl ⟨by rfl, ?_⟩) (by assumption) ?_
          · intro w' hSw
            obtain ⟨k1, k2, k3⟩ := hSw
            go_simp
          simp only [Act.put, List.setIfInBounds_toArray, List.set_cons_zero, List.set_cons_succ]
          refine wpAnyS_take (i := 40) (oi := ⟨some 72, _, _, _, _, _⟩) (v := .bool false) rfl (by kernel_rfl) (by kernel_rfl) (by kernel_rfl) (by kernel_rfl) (fun _ _ _ h => Norm.panic h) (Or.inl ⟨by rfl, ?_⟩) (by assumption) ?_
          · intro w' hSw
            obtain ⟨k1, k2, k3⟩ := hSw
            go_simp
          simp only [Act.put, List.setIfInBounds_toArray, List.set_cons_zero, List.set_cons_succ]
          refine wpAnyS_take (i := 41) (oi := ⟨some 73, _, _, _, _, _⟩) (v := .bool false) rfl (by kernel_rfl) (by kernel_rfl) (by kernel_rfl) (by kernel_rfl) (fun _ _ _ h => Norm.panic h) (Or.inl ⟨by rfl, ?_⟩) (by assumption) ?_
          · intro w' hSw
            obtain ⟨k1, k2, k3⟩ := hSw
            go_simp
          simp only [Act.put, List.setIfInBounds_toArray, List.set_cons_zero, List.set_cons_succ]
          refine wpAnyS_take (i := 42) (oi := ⟨some 74, _, _, _, _, _⟩) (v := .pointer (some ⟨wr.heap.size, 1, none⟩)) rfl (by kernel_rfl) (by kernel_rfl) (by kernel_rfl) (by kernel_rfl) (fun _ _ _ h => Norm.panic h) (Or.inl ⟨by rfl, ?_⟩) (by assumption) ?_
          · intro w' hSw
            obtain ⟨k1, k2, k3⟩ := hSw
            go_simp
          simp only [Act.put, List.setIfInBounds_toArray, List.set_cons_zero, List.set_cons_succ]
          refine wpAnyS_take (i := 43) (oi := ⟨some 75, _, _, _, _, _⟩) (v := .string x) rfl (by kernel_rfl) (by kernel_rfl) (by kernel_rfl) (by kernel_rfl) (fun _ _ _ h => Norm.panic h) (Or.inl ⟨by rfl, ?_⟩) (by assumption) ?_
          · intro w' hSw
            obtain ⟨k1, k2, k3⟩ := hSw
            go_simp
          simp only [Act.put, List.setIfInBounds_toArray, List.set_cons_zero, List.set_cons_succ]
          refine wpAnyS_take (i := 44) (oi := ⟨some 76, _, _, _, _, _⟩) (v := .bool b) rfl (by kernel_rfl) (by kernel_rfl) (by kernel_rfl) (by kernel_rfl) (fun _ _ _ h => Norm.panic h) (Or.inl ⟨by rfl, ?_⟩) (by assumption) ?_
          · intro w' hSw
            obtain ⟨k1, k2, k3⟩ := hSw
            go_simp
          simp only [Act.put, List.setIfInBounds_toArray, List.set_cons_zero, List.set_cons_succ]
          refine wpAnyS_take (i := 45) (oi := ⟨some 77, _, _, _, _, _⟩) (v := .pointer (some ⟨wr.heap.size, 0, none⟩)) rfl (by kernel_rfl) (by kernel_rfl) (by kernel_rfl) (by kernel_rfl) (fun _ _ _ h => Norm.panic h) (Or.inl ⟨by rfl, ?_⟩) (by assumption) ?_
          · intro w' hSw
            obtain ⟨k1, k2, k3⟩ := hSw
            go_simp
          simp only [Act.put, List.setIfInBounds_toArray, List.set_cons_zero, List.set_cons_succ]
          refine wpAnyS_take (i := 46) (oi := ⟨some 78, _, _, _, _, _⟩) (v := .int .u8 (k : Int)) rfl (by kernel_rfl) (by kernel_rfl) (by kernel_rfl) (by kernel_rfl) (fun _ _ _ h => Norm.panic h) (Or.inl ⟨by rfl, ?_⟩) (by assumption) ?_
          · intro w' hSw
            obtain ⟨k1, k2, k3⟩ := hSw
            go_simp
          simp only [Act.put, List.setIfInBounds_toArray, List.set_cons_zero, List.set_cons_succ]
          refine wpAnyS_take (i := 47) (oi := ⟨some 79, _, _, _, _, _⟩) (v := .bool b) rfl (by kernel_rfl) (by kernel_rfl) (by kernel_rfl) (by kernel_rfl) (fun _ _ _ h => Norm.panic h) (Or.inl ⟨by rfl, ?_⟩) (by assumption) ?_
          · intro w' hSw
            obtain ⟨k1, k2, k3⟩ := hSw
            go_simp
          simp only [Act.put, List.setIfInBounds_toArray, List.set_cons_zero, List.set_cons_succ]
          refine wpAnyS_take (i := 48) (oi := ⟨some 80, _, _, _, _, _⟩) (v := .bool false) rfl (by kernel_rfl) (by kernel_rfl) (by kernel_rfl) (by kernel_rfl) (fun _ _ _ h => Norm.panic h) (Or.inl ⟨by rfl, ?_⟩) (by assumption) ?_
          · intro w' hSw
            obtain ⟨k1, k2, k3⟩ := hSw
            go_simp
          simp only [Act.put, List.setIfInBounds_toArray, List.set_cons_zero, List.set_cons_succ]
          refine wpAnyS_take (i := 49) (oi := ⟨some 81, _, _, _, _, _⟩) (v := .bool false) rfl (by kernel_rfl) (by kernel_rfl) (by kernel_rfl) (by kernel_rfl) (fun _ _ _ h => Norm.panic h) (Or.inl ⟨by rfl, ?_⟩) (by assumption) ?_
          · intro w' hSw
            obtain ⟨k1, k2, k3⟩ := hSw
            go_simp
          simp only [Act.put, List.setIfInBounds_toArray, List.set_cons_zero, List.set_cons_succ]
          refine wpAnyS_done (by kernel_rfl) ?_
          refine Norm.normal ?_
          clear m0 m1 m4 m8 m9 m10 b1 b2 b3 b4 h3
          have z0 : ((wr.alloc (.cells #[.int .u8 (k : Int), .string x, .int .i64 (a : Int)] 26)).drew).cell? ⟨wr.heap.size, 1, none⟩ = some (.string x) := by rw [World.cell?_drew, World.cell?_alloc_at _ _ _ _ rfl]; rfl
          have z1 : ((wr.alloc (.cells #[.int .u8 (k : Int), .string x, .int .i64 (a : Int)] 26)).drew).cell? ⟨wr.heap.size, 2, none⟩ = some (.int .i64 (a : Int)) := by rw [World.cell?_drew, World.cell?_alloc_at _ _ _ _ rfl]; rfl
          have HBB := Lib.hid (show Below wr.heap.size wr ((wr.alloc (.cells #[.int .u8 (k : Int), .string x, .int .i64 (a : Int)] 26)).drew) from Below.drew ((Below.refl _ _).alloc (Nat.le_refl _) _))
          have Z0 := Lib.hid z0
          have Z1 := Lib.hid z1
          clear z0 z1 hHeld c0 c1 c2
          generalize (wr.alloc (.cells #[.int .u8 (k : Int), .string x, .int .i64 (a : Int)] 26)).drew = W0 at HBB Z0 Z1 ⊢
          have z0 := Z0.out
          have z1 := Z1.out
          clear Z0 Z1
          go_wp2_with fail
          go_loopw [6] (fun v W => SiR a p v ∧ W = W0) (fun v _ => a - (intOf v).toNat)
          case atStart => exact ⟨⟨p, rfl, Nat.le_refl _, h1⟩, rfl⟩
          case round =>
            obtain ⟨⟨j, rfl, hj1, hj2⟩, rfl⟩ := hrel
            by_cases hja : j < a
            · have hjs : j < s.size := by omega
              have hbl := H4.out j hj1 hja hjs
              have j0 : (0 : Int) ≤ (j : Int) := by omega
              have j1 : (j : Int) < (s.size : Int) := by omega
              have hc : (s[j].toNat : Int) = 32 ∨ (s[j].toNat : Int) = 9 ∨ (s[j].toNat : Int) = 10 ∨ (s[j].toNat : Int) = 13 := by
                rw [blk_int] at hbl
                simpa [or_assoc] using hbl
              clear hbl
              rcases hc with hc | hc | hc | hc
              all_goals
                go_wp2_with fail
                exact ⟨⟨⟨j + 1, by go_num, by omega, by omega⟩, trivial⟩, by simp [intOf]; omega⟩
            · obtain rfl : j = a := by omega
              clear hja
              go_wp2_with fail
              refine ⟨⟨i + 1, j + x.size, by go_num, by go_num, by omega, by omega, H7.out, HBR.out.trans (HBB.out.mono HBR.out.size), HTR.out.grow HBB.out⟩, by simp [intOf]; omega⟩
        · have hii : i = (tgL s).length := by omega
          have hps : p = s.size := by
            have hlen : (tgL s).length = (ysL s).length := by unfold tgL tksL; simp
            rcases hst with ⟨h, _⟩ | ⟨_, h⟩
            · omega
            · exact h
          have HBR := Lib.hid hbr
          subst hps
          clear hst hbr htr hi
          go_wp2_with fail
          go_ret
          exact ⟨rfl, HBR.out⟩
end Go.Proofs.Yteoaglhdandhkaa.Lx

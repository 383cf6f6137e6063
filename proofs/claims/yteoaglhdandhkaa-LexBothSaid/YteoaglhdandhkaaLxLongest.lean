/-
  LexLongest: what is directly behind a token never makes it a longer one.
-/
import Derived.Test.YteoaglhdandhkaaLxStands
import Derived.Test.YteoaglhdandhkaaLxPure3
namespace Go.Proofs.Yteoaglhdandhkaa.Lx
open Go Go.RowKit Go.Shelf Go.Proofs.Yteoaglhdandhkaa.Fm
set_option linter.unusedVariables false
set_option linter.unusedSimpArgs false
theorem st_all (s : ByteArray) (he : errs (ysL s) = false) : ∀ i, i ≤ (tgL s).length → ∃ p, StR s i p
  | 0, _ => ⟨0, .inl ⟨by
      obtain ⟨zs, y, h1, _⟩ := toks_ends KK 0 s.data.toList
      show 0 < (toks KK 0 s.data.toList).length
      rw [h1]; simp, Nat.zero_le _, by unfold ysL restL; rw [List.drop_zero, List.drop_zero]⟩⟩
  | i + 1, h => by
    obtain ⟨p, hp⟩ := st_all s he i (by omega)
    obtain ⟨k, a, x, _, _, _, _, _, _, _, h7⟩ := st_step hp he (by omega)
    exact ⟨_, h7⟩
/-- A token that is not the end, as it was read. -/
theorem tok_at (s : ByteArray) (he : errs (ysL s) = false) (i : Nat) (hi : i + 1 < (tgL s).length) : ∃ k n a : Nat, (tgL s)[i] = ⟨(k : Int), bs ((restL s a).take n), (a : Int)⟩ ∧ tok1 KK (restL s a) = (k, n, 0) ∧ a + n ≤ s.size := by
  obtain ⟨p, hp⟩ := st_all s he i (by omega)
  have hlen : (tgL s).length = (ysL s).length := by unfold tgL tksL; simp
  rcases hp with ⟨_, hp, hd⟩ | ⟨h, _⟩
  · obtain ⟨q, h1, h2, h3, h4⟩ := skip_to s _ p (Nat.le_refl _) hp
    rw [toks_next s p q h3 h1 h2] at hd
    have hi2 : (ysL s)[i]? = some (nextY s q).1 := by
      have := congrArg (fun l => l[0]?) hd
      simpa using this
    have h0 := errs_all he _ (List.mem_of_getElem? hi2)
    have hg : (tgL s)[i] = toG (nextY s q).1.1 := by
      have : (tgL s)[i]? = some (toG (nextY s q).1.1) := by unfold tgL tksL; rw [List.getElem?_map, List.getElem?_map, hi2]; rfl
      exact (List.getElem?_eq_some_iff.1 this).2
    by_cases hn : restL s q = []
    · have hy : nextY s q = ((⟨5, [], q⟩, 0), q) := by unfold nextY; rw [if_pos hn]
      rw [hy] at hd
      have hl : i + 1 = (ysL s).length := drop_last (hd.trans (by rw [if_neg (by simp)]))
      omega
    · have hy : nextY s q = ((⟨(tok1 KK (restL s q)).1, (restL s q).take (tok1 KK (restL s q)).2.1, q⟩, (tok1 KK (restL s q)).2.2), q + (tok1 KK (restL s q)).2.1) := by unfold nextY; rw [if_neg hn]
      rw [hy] at hg h0
      have hb := tok1_bd KK h0
      rw [restL_len] at hb
      have h0 : (tok1 KK (restL s q)).2.2 = 0 := h0
      refine ⟨(tok1 KK (restL s q)).1, (tok1 KK (restL s q)).2.1, q, hg, by rw [← h0], by omega⟩
  · omega
theorem adj_tg (s : ByteArray) (he : errs (ysL s) = false) (i : Nat) (hi : i + 2 < (tgL s).length) : ∃ k k' a a' : Nat, ∃ x y : ByteArray, (tgL s)[i] = ⟨(k : Int), x, (a : Int)⟩ ∧ (tgL s)[i + 1] = ⟨(k' : Int), y, (a' : Int)⟩ ∧ a + x.size ≤ s.size ∧ a' + y.size ≤ s.size ∧
    (a + x.size = a' → errs (ysL (x ++ y)) = false ∧ tgL (x ++ y) = [⟨(k : Int), x, 0⟩, ⟨(k' : Int), y, (x.size : Int)⟩, ⟨5, ⟨#[]⟩, ((x.size + y.size : Nat) : Int)⟩] ∧ (k = 4 ∨ k' = 4 ∨ k' = 2)) := by
  obtain ⟨k, n, a, h1, h2, h3⟩ := tok_at s he i (by omega)
  obtain ⟨k', n', a', g1, g2, g3⟩ := tok_at s he (i + 1) (by omega)
  have sx : (bs ((restL s a).take n)).size = n := by rw [bs_size, List.length_take, restL_len]; omega
  have sy : (bs ((restL s a').take n')).size = n' := by rw [bs_size, List.length_take, restL_len]; omega
  refine ⟨k, k', a, a', _, _, h1, g1, by rw [sx]; exact h3, by rw [sy]; exact g3, ?_⟩
  rw [sx, sy]
  rintro rfl
  have hd : (restL s a).drop n = restL s (a + n) := by unfold restL; rw [List.drop_drop]
  rw [← hd] at g2
  obtain ⟨hj, hk⟩ := adj KK h2 g2
  have hy : ysL (bs ((restL s a).take n) ++ bs ((restL s (a + n)).take n')) = [(⟨k, (restL s a).take n, 0⟩, 0), (⟨k', (restL s (a + n)).take n', n⟩, 0), (⟨5, [], n + n'⟩, 0)] := by
    unfold ysL
    rw [app_list, bs_toList, bs_toList, ← hd]
    exact hj
  refine ⟨by rw [hy]; rfl, ?_, hk⟩
  unfold tgL tksL
  rw [hy]
  rfl
def LoR (s : ByteArray) (g : Nat) (w : World) (i : Value) (wr : World) : Prop := ∃ q : Nat, i = .int .i64 (q : Int) ∧ q ≤ (tgL s).length ∧ Below w.heap.size w wr ∧ TsV wr (some ⟨g, 0, none⟩) (tgL s)
set_option maxHeartbeats 4000000 in
set_option maxRecDepth 20000 in
theorem lex_longest_c (s : ByteArray) (w : World) (hs : s.size ≤ 140737488351232) : Calls Try.prog 7 #[.string s] w fun e w' => e = .returned (.bool true) ∧ Below w.heap.size w w' := by
  have HA := Lib.hid awake_c
  by_cases hlong : 3000 < s.size
  · have d1 : decide (3000 < s.size) = true := decide_eq_true hlong
    have d2 : decide (3000 < (s.size : Int)) = true := decide_eq_true (by omega)
    go_enter Try.func7, Try.ntmps7
    go_wp2_with ((refine (HA.out _).mono ?_; rintro e w1 ⟨rfl, hb1⟩))
    go_ret
    exact ⟨rfl, hb1⟩
  · have d1 : decide (3000 < s.size) = false := decide_eq_false hlong
    have d2 : decide (3000 < (s.size : Int)) = false := decide_eq_false (by omega)
    cases he : errs (ysL s) with
    | true =>
      obtain ⟨z, hz, hz2, _⟩ := err_last s he
      have HL := Lib.hid (fun w => lex_er s w (by omega) z hz (by omega))
      have dz : ((z.2 : Int) != 0) = true := by simp; omega
      have dz2 : ((z.2 : Int) == 0) = false := by simp; omega
      clear hz hz2 he
      go_enter Try.func7, Try.ntmps7
      go_wp2_with (first
        | (go_at_call 9; refine (HA.out _).mono ?_; rintro e w1 ⟨rfl, hb1⟩)
        | (go_at_call 13; refine (HL.out _).mono ?_; rintro e w2 ⟨rfl, hb2⟩))
      go_ret
      exact ⟨rfl, hb1.trans (hb2.mono hb1.size)⟩
    | false =>
      have HL := Lib.hid (fun w => lex_ok s w (by omega) he)
      have HE := Lib.hid he
      have hln := tgL_len s
      have hsl : s.size ≤ 3000 := by omega
      clear he hlong
      go_enter Try.func7, Try.ntmps7
      go_wp2_with fail
      refine (HA.out _).mono ?_
      rintro e w1 ⟨rfl, hb1⟩
      go_wp2_with fail
      refine (HL.out _).mono ?_
      rintro e w2 ⟨g, cap, rfl, hb2, hg, ht⟩
      have HB2 := Lib.hid (hb1.trans (hb2.mono hb1.size))
      have HT := Lib.hid ht
      clear hb1 hb2 ht hg d1 d2
      go_wp2_with fail
      go_loopw [6] (fun i wr => LoR s g w i wr) (fun i _ => (tgL s).length - (intOf i).toNat)
      case atStart => exact ⟨0, rfl, Nat.zero_le _, HB2.out, HT.out⟩
      case round =>
        clear HB2 HT
        obtain ⟨i, rfl, hi, hbr, htr⟩ := hrel
        have HBR := Lib.hid hbr
        have HTR := Lib.hid htr
        by_cases hlt : i + 2 < (tgL s).length
        · obtain ⟨k, k', a, a', x, y, h1, h2, h3, h4, h5⟩ := adj_tg s HE.out i hlt
          obtain ⟨g', o, hgo, hgl, c0, c1, c2⟩ := htr.get (i := i) (by omega)
          injection hgo with hgo
          injection hgo with hgo hgo2
          subst hgo; subst hgo2
          obtain ⟨g', o, hgo, hgl, e0, e1, e2⟩ := htr.get (i := i + 1) (by omega)
          injection hgo with hgo
          injection hgo with hgo hgo2
          subst hgo; subst hgo2
          rw [h1] at c0 c1 c2
          rw [h2] at e0 e1 e2
          rw [Nat.zero_add] at c0 c1 c2 e0 e1 e2
          have n0 : (0 : Int) ≤ (i : Int) := by omega
          have n1 : (i : Int) < ((tgL s).length : Int) := by omega
          have n2 : (i : Int) + 2 < ((tgL s).length : Int) := by omega
          have n3 : (i : Int) + 1 < ((tgL s).length : Int) := by omega
          have n4 : (0 : Int) ≤ (i : Int) + 1 := by omega
          have n5 : decide ((i : Int) + 2 < ((tgL s).length : Int)) = true := decide_eq_true n2
          have m10 : IntKind.i64.wrap ((i : Int) + 1) = (i : Int) + 1 := IntWalk.i64_in _ (by omega)
          have m11 : ((i : Int) + 1).toNat = i + 1 := by omega
          have m2 : (0 : Int) ≤ (a : Int) + (x.size : Int) := by omega
          have m3 : (a : Int) + (x.size : Int) ≤ 3000 := by omega
          have H5 := Lib.hid h5
          clear h5 h1 h2 hbr htr
          go_wp2_with fail
          clear n5
          go_region
          · have ht1 : (tgL s).length ≤ 3001 := by omega
            obtain ⟨B1, hB1⟩ : ∃ B, B = wr.heap.size := ⟨_, rfl⟩
            obtain ⟨B2, hB2⟩ : ∃ B, B = wr.heap.size + 1 := ⟨_, rfl⟩
            have q1 : (((wr.alloc (.cells #[.int .u8 (k : Int), .string x, .int .i64 (a : Int)] 26)).alloc (.cells #[.int .u8 (k' : Int), .string y, .int .i64 (a' : Int)] 26)).drew).cell? ⟨wr.heap.size, 0, none⟩ = some (.int .u8 (k : Int)) := by rw [World.cell?_drew, World.cell?_alloc_lt _ _ _ (by rw [World.size_alloc]; exact Nat.lt_succ_self _), World.cell?_alloc_at _ _ _ _ rfl]; rfl
            have q2 : (((wr.alloc (.cells #[.int .u8 (k : Int), .string x, .int .i64 (a : Int)] 26)).alloc (.cells #[.int .u8 (k' : Int), .string y, .int .i64 (a' : Int)] 26)).drew).cell? ⟨wr.heap.size, 1, none⟩ = some (.string x) := by rw [World.cell?_drew, World.cell?_alloc_lt _ _ _ (by rw [World.size_alloc]; exact Nat.lt_succ_self _), World.cell?_alloc_at _ _ _ _ rfl]; rfl
            have q3 : (((wr.alloc (.cells #[.int .u8 (k : Int), .string x, .int .i64 (a : Int)] 26)).alloc (.cells #[.int .u8 (k' : Int), .string y, .int .i64 (a' : Int)] 26)).drew).cell? ⟨wr.heap.size, 2, none⟩ = some (.int .i64 (a : Int)) := by rw [World.cell?_drew, World.cell?_alloc_lt _ _ _ (by rw [World.size_alloc]; exact Nat.lt_succ_self _), World.cell?_alloc_at _ _ _ _ rfl]; rfl
            have q4 : (((wr.alloc (.cells #[.int .u8 (k : Int), .string x, .int .i64 (a : Int)] 26)).alloc (.cells #[.int .u8 (k' : Int), .string y, .int .i64 (a' : Int)] 26)).drew).cell? ⟨wr.heap.size + 1, 0, none⟩ = some (.int .u8 (k' : Int)) := by rw [World.cell?_drew, World.cell?_alloc_at _ _ _ _ (by rw [World.size_alloc])]; rfl
            have q5 : (((wr.alloc (.cells #[.int .u8 (k : Int), .string x, .int .i64 (a : Int)] 26)).alloc (.cells #[.int .u8 (k' : Int), .string y, .int .i64 (a' : Int)] 26)).drew).cell? ⟨wr.heap.size + 1, 1, none⟩ = some (.string y) := by rw [World.cell?_drew, World.cell?_alloc_at _ _ _ _ (by rw [World.size_alloc])]; rfl
            have q6 : (((wr.alloc (.cells #[.int .u8 (k : Int), .string x, .int .i64 (a : Int)] 26)).alloc (.cells #[.int .u8 (k' : Int), .string y, .int .i64 (a' : Int)] 26)).drew).cell? ⟨wr.heap.size + 1, 2, none⟩ = some (.int .i64 (a' : Int)) := by rw [World.cell?_drew, World.cell?_alloc_at _ _ _ _ (by rw [World.size_alloc])]; rfl
            have HBB := Lib.hid (show Below wr.heap.size wr (((wr.alloc (.cells #[.int .u8 (k : Int), .string x, .int .i64 (a : Int)] 26)).alloc (.cells #[.int .u8 (k' : Int), .string y, .int .i64 (a' : Int)] 26)).drew) from Below.drew (((Below.refl _ _).alloc (Nat.le_refl _) _).alloc (by rw [World.size_alloc]; exact Nat.le_succ _) _))
            have hw2 : (((wr.alloc (.cells #[.int .u8 (k : Int), .string x, .int .i64 (a : Int)] 26)).alloc (.cells #[.int .u8 (k' : Int), .string y, .int .i64 (a' : Int)] 26)).drew).heap.size = wr.heap.size + 2 := by rw [World.size_drew, World.size_alloc, World.size_alloc]
            rw [← hB1] at q1 q2 q3
            rw [← hB2] at q4 q5 q6
            rw [← hB2]
            rw [← hB1]
            have Q1 := Lib.hid q1
            have Q2 := Lib.hid q2
            have Q3 := Lib.hid q3
            have Q4 := Lib.hid q4
            have Q5 := Lib.hid q5
            have Q6 := Lib.hid q6
            clear q1 q2 q3 q4 q5 q6
            generalize ((wr.alloc (.cells #[.int .u8 (k : Int), .string x, .int .i64 (a : Int)] 26)).alloc (.cells #[.int .u8 (k' : Int), .string y, .int .i64 (a' : Int)] 26)).drew = W0 at HBB Q1 Q2 Q3 Q4 Q5 Q6 hw2 ⊢
            have hz1 : B1 < W0.heap.size := by omega
            have hz2 : B2 < W0.heap.size := by omega
            clear hB1 hB2 hw2
            have q1 := Q1.out
            have q2 := Q2.out
            have q3 := Q3.out
            have q4 := Q4.out
            have q5 := Q5.out
            have q6 := Q6.out
            clear Q1 Q2 Q3 Q4 Q5 Q6 c0 c1 c2 e0 e1 e2
            by_cases haj : a + x.size = a'
            · have f1 : ((a : Int) + (x.size : Int) != (a' : Int)) = false := by simp; omega
              obtain ⟨hE, hT, hK⟩ := H5.out haj
              have hX := lex_ok (x ++ y) W0 (by rw [ByteArray.size_append]; omega) hE
              rw [hT] at hX
              have HX := Lib.hid hX
              clear hX hE hT H5 HL HA HE
              go_wp2_with fail
              with_reducible refine (HX.out).mono ?_
              rintro e w3 ⟨g2, cap2, rfl, hb3, hg3, ht3⟩
              obtain ⟨g', o, hgo, hg2, r0, r1, r2⟩ := ht3.get (i := 0) (by simp)
              injection hgo with hgo
              injection hgo with hgo hgo2
              subst hgo; subst hgo2
              obtain ⟨g', o, hgo, hg2', r3, r4, r5⟩ := ht3.get (i := 1) (by simp)
              injection hgo with hgo
              injection hgo with hgo hgo2
              subst hgo; subst hgo2
              have r1 : w3.cell? ⟨g2, 1, none⟩ = some (.string x) := r1
              have r4 : w3.cell? ⟨g2, 4, none⟩ = some (.string y) := r4
              have t0 := (hb3.cell (p := ⟨B1, 0, none⟩) hz1).trans q1
              have t1 := (hb3.cell (p := ⟨B1, 1, none⟩) hz1).trans q2
              have t3 := (hb3.cell (p := ⟨B2, 0, none⟩) hz2).trans q4
              have t4 := (hb3.cell (p := ⟨B2, 1, none⟩) hz2).trans q5
              have HB3 := Lib.hid (HBB.out.trans (hb3.mono HBB.out.size))
              clear r0 r2 r3 r5 ht3 hb3 hg3 hg2 hg2' HX HBB q1 q2 q3 q4 q5 q6 f1
              go_wp2_with fail
              refine wp_region_S (fun w' => w'.cell? ⟨g2, 1, none⟩ = some (.string x) ∧ w'.cell? ⟨g2, 4, none⟩ = some (.string y) ∧ w'.cell? ⟨B1, 1, none⟩ = some (.string x) ∧ w'.cell? ⟨B2, 1, none⟩ = some (.string y)) [] 25 #[false, false, false, false, false, false, false, false, false, false, false, false, false, false, false, false, false, false, false, false, false, false, false, false, false] (by kernel_rfl) (by kernel_rfl) (by kernel_rfl)
                (by rw [World.cell?_drew, World.cell?_drew, World.cell?_drew, World.cell?_drew]; exact ⟨r1, r4, t1, t4⟩) (fun hHeld => ?_)
              refine wpAnyS_take (i := 0) (oi := ⟨some 62, _, _, _, _, _⟩) (v := .int .i64 0) rfl (by kernel_rfl) (by kernel_rfl) (by kernel_rfl) (by kernel_rfl) (fun _ _ _ h => Norm.panic h) (Or.inl ⟨by rfl, ?_⟩) (by assumption) ?_
              · intro w' hSw
                obtain ⟨k1, k2, k3, k4⟩ := hSw
                go_simp
              simp only [Act.put, List.setIfInBounds_toArray, List.set_cons_zero, List.set_cons_succ]
              refine wpAnyS_take (i := 1) (oi := ⟨some 63, _, _, _, _, _⟩) (v := .bool false) rfl (by kernel_rfl) (by kernel_rfl) (by kernel_rfl) (by kernel_rfl) (fun _ _ _ h => Norm.panic h) (Or.inl ⟨by rfl, ?_⟩) (by assumption) ?_
              · intro w' hSw
                obtain ⟨k1, k2, k3, k4⟩ := hSw
                go_simp
              simp only [Act.put, List.setIfInBounds_toArray, List.set_cons_zero, List.set_cons_succ]
              refine wpAnyS_take (i := 2) (oi := ⟨some 64, _, _, _, _, _⟩) (v := .bool false) rfl (by kernel_rfl) (by kernel_rfl) (by kernel_rfl) (by kernel_rfl) (fun _ _ _ h => Norm.panic h) (Or.inl ⟨by rfl, ?_⟩) (by assumption) ?_
              · intro w' hSw
                obtain ⟨k1, k2, k3, k4⟩ := hSw
                go_simp
              simp only [Act.put, List.setIfInBounds_toArray, List.set_cons_zero, List.set_cons_succ]
              refine wpAnyS_take (i := 3) (oi := ⟨some 65, _, _, _, _, _⟩) (v := .slice (some ⟨g2, 0, none⟩) 3 cap2) rfl (by kernel_rfl) (by kernel_rfl) (by kernel_rfl) (by kernel_rfl) (fun _ _ _ h => Norm.panic h) (Or.inl ⟨by rfl, ?_⟩) (by assumption) ?_
              · intro w' hSw
                obtain ⟨k1, k2, k3, k4⟩ := hSw
                go_simp
              simp only [Act.put, List.setIfInBounds_toArray, List.set_cons_zero, List.set_cons_succ]
              refine wpAnyS_take (i := 4) (oi := ⟨some 66, _, _, _, _, _⟩) (v := .int .i64 3) rfl (by kernel_rfl) (by kernel_rfl) (by kernel_rfl) (by kernel_rfl) (fun _ _ _ h => Norm.panic h) (Or.inl ⟨by rfl, ?_⟩) (by assumption) ?_
              · intro w' hSw
                obtain ⟨k1, k2, k3, k4⟩ := hSw
                go_simp
              simp only [Act.put, List.setIfInBounds_toArray, List.set_cons_zero, List.set_cons_succ]
              refine wpAnyS_take (i := 5) (oi := ⟨some 67, _, _, _, _, _⟩) (v := .bool false) rfl (by kernel_rfl) (by kernel_rfl) (by kernel_rfl) (by kernel_rfl) (fun _ _ _ h => Norm.panic h) (Or.inl ⟨by rfl, ?_⟩) (by assumption) ?_
              · intro w' hSw
                obtain ⟨k1, k2, k3, k4⟩ := hSw
                go_simp
              simp only [Act.put, List.setIfInBounds_toArray, List.set_cons_zero, List.set_cons_succ]
              refine wpAnyS_take (i := 6) (oi := ⟨some 68, _, _, _, _, _⟩) (v := .bool false) rfl (by kernel_rfl) (by kernel_rfl) (by kernel_rfl) (by kernel_rfl) (fun _ _ _ h => Norm.panic h) (Or.inl ⟨by rfl, ?_⟩) (by assumption) ?_
              · intro w' hSw
                obtain ⟨k1, k2, k3, k4⟩ := hSw
                go_simp
              simp only [Act.put, List.setIfInBounds_toArray, List.set_cons_zero, List.set_cons_succ]
              refine wpAnyS_take (i := 7) (oi := ⟨some 69, _, _, _, _, _⟩) (v := .bool false) rfl (by kernel_rfl) (by kernel_rfl) (by kernel_rfl) (by kernel_rfl) (fun _ _ _ h => Norm.panic h) (Or.inl ⟨by rfl, ?_⟩) (by assumption) ?_
              · intro w' hSw
                obtain ⟨k1, k2, k3, k4⟩ := hSw
                go_simp
              simp only [Act.put, List.setIfInBounds_toArray, List.set_cons_zero, List.set_cons_succ]
              refine wpAnyS_take (i := 8) (oi := ⟨some 70, _, _, _, _, _⟩) (v := .slice (some ⟨g2, 0, none⟩) 3 cap2) rfl (by kernel_rfl) (by kernel_rfl) (by kernel_rfl) (by kernel_rfl) (fun _ _ _ h => Norm.panic h) (Or.inl ⟨by rfl, ?_⟩) (by assumption) ?_
              · intro w' hSw
                obtain ⟨k1, k2, k3, k4⟩ := hSw
                go_simp
              simp only [Act.put, List.setIfInBounds_toArray, List.set_cons_zero, List.set_cons_succ]
              refine wpAnyS_take (i := 9) (oi := ⟨some 71, _, _, _, _, _⟩) (v := .pointer (some ⟨g2, 0, none⟩)) rfl (by kernel_rfl) (by kernel_rfl) (by kernel_rfl) (by kernel_rfl) (fun _ _ _ h => Norm.panic h) (Or.inl ⟨by rfl, ?_⟩) (by assumption) ?_
              · intro w' hSw
                obtain ⟨k1, k2, k3, k4⟩ := hSw
                go_simp
              simp only [Act.put, List.setIfInBounds_toArray, List.set_cons_zero, List.set_cons_succ]
              refine wpAnyS_take (i := 10) (oi := ⟨some 72, _, _, _, _, _⟩) (v := .pointer (some ⟨g2, 1, none⟩)) rfl (by kernel_rfl) (by kernel_rfl) (by kernel_rfl) (by kernel_rfl) (fun _ _ _ h => Norm.panic h) (Or.inl ⟨by rfl, ?_⟩) (by assumption) ?_
              · intro w' hSw
                obtain ⟨k1, k2, k3, k4⟩ := hSw
                go_simp
              simp only [Act.put, List.setIfInBounds_toArray, List.set_cons_zero, List.set_cons_succ]
              refine wpAnyS_take (i := 11) (oi := ⟨some 73, _, _, _, _, _⟩) (v := .string x) rfl (by kernel_rfl) (by kernel_rfl) (by kernel_rfl) (by kernel_rfl) (fun _ _ _ h => Norm.panic h) (Or.inl ⟨by rfl, ?_⟩) (by assumption) ?_
              · intro w' hSw
                obtain ⟨k1, k2, k3, k4⟩ := hSw
                go_simp
              simp only [Act.put, List.setIfInBounds_toArray, List.set_cons_zero, List.set_cons_succ]
              refine wpAnyS_take (i := 12) (oi := ⟨some 74, _, _, _, _, _⟩) (v := .pointer (some ⟨B1, 1, none⟩)) rfl (by kernel_rfl) (by kernel_rfl) (by kernel_rfl) (by kernel_rfl) (fun _ _ _ h => Norm.panic h) (Or.inl ⟨by rfl, ?_⟩) (by assumption) ?_
              · intro w' hSw
                obtain ⟨k1, k2, k3, k4⟩ := hSw
                go_simp
              simp only [Act.put, List.setIfInBounds_toArray, List.set_cons_zero, List.set_cons_succ]
              refine wpAnyS_take (i := 13) (oi := ⟨some 75, _, _, _, _, _⟩) (v := .string x) rfl (by kernel_rfl) (by kernel_rfl) (by kernel_rfl) (by kernel_rfl) (fun _ _ _ h => Norm.panic h) (Or.inl ⟨by rfl, ?_⟩) (by assumption) ?_
              · intro w' hSw
                obtain ⟨k1, k2, k3, k4⟩ := hSw
                go_simp
              simp only [Act.put, List.setIfInBounds_toArray, List.set_cons_zero, List.set_cons_succ]
              refine wpAnyS_take (i := 14) (oi := ⟨some 76, _, _, _, _, _⟩) (v := .bool false) rfl (by kernel_rfl) (by kernel_rfl) (by kernel_rfl) (by kernel_rfl) (fun _ _ _ h => Norm.panic h) (Or.inl ⟨by rfl, ?_⟩) (by assumption) ?_
              · intro w' hSw
                obtain ⟨k1, k2, k3, k4⟩ := hSw
                go_simp
              simp only [Act.put, List.setIfInBounds_toArray, List.set_cons_zero, List.set_cons_succ]
              refine wpAnyS_take (i := 15) (oi := ⟨some 77, _, _, _, _, _⟩) (v := .bool false) rfl (by kernel_rfl) (by kernel_rfl) (by kernel_rfl) (by kernel_rfl) (fun _ _ _ h => Norm.panic h) (Or.inl ⟨by rfl, ?_⟩) (by assumption) ?_
              · intro w' hSw
                obtain ⟨k1, k2, k3, k4⟩ := hSw
                go_simp
              simp only [Act.put, List.setIfInBounds_toArray, List.set_cons_zero, List.set_cons_succ]
              refine wpAnyS_take (i := 16) (oi := ⟨some 78, _, _, _, _, _⟩) (v := .bool false) rfl (by kernel_rfl) (by kernel_rfl) (by kernel_rfl) (by kernel_rfl) (fun _ _ _ h => Norm.panic h) (Or.inl ⟨by rfl, ?_⟩) (by assumption) ?_
              · intro w' hSw
                obtain ⟨k1, k2, k3, k4⟩ := hSw
                go_simp
              simp only [Act.put, List.setIfInBounds_toArray, List.set_cons_zero, List.set_cons_succ]
              refine wpAnyS_take (i := 17) (oi := ⟨some 79, _, _, _, _, _⟩) (v := .slice (some ⟨g2, 0, none⟩) 3 cap2) rfl (by kernel_rfl) (by kernel_rfl) (by kernel_rfl) (by kernel_rfl) (fun _ _ _ h => Norm.panic h) (Or.inl ⟨by rfl, ?_⟩) (by assumption) ?_
              · intro w' hSw
                obtain ⟨k1, k2, k3, k4⟩ := hSw
                go_simp
              simp only [Act.put, List.setIfInBounds_toArray, List.set_cons_zero, List.set_cons_succ]
              refine wpAnyS_take (i := 18) (oi := ⟨some 80, _, _, _, _, _⟩) (v := .pointer (some ⟨g2, 3, none⟩)) rfl (by kernel_rfl) (by kernel_rfl) (by kernel_rfl) (by kernel_rfl) (fun _ _ _ h => Norm.panic h) (Or.inl ⟨by rfl, ?_⟩) (by assumption) ?_
              · intro w' hSw
                obtain ⟨k1, k2, k3, k4⟩ := hSw
                go_simp
              simp only [Act.put, List.setIfInBounds_toArray, List.set_cons_zero, List.set_cons_succ]
              refine wpAnyS_take (i := 19) (oi := ⟨some 81, _, _, _, _, _⟩) (v := .pointer (some ⟨g2, 4, none⟩)) rfl (by kernel_rfl) (by kernel_rfl) (by kernel_rfl) (by kernel_rfl) (fun _ _ _ h => Norm.panic h) (Or.inl ⟨by rfl, ?_⟩) (by assumption) ?_
              · intro w' hSw
                obtain ⟨k1, k2, k3, k4⟩ := hSw
                go_simp
              simp only [Act.put, List.setIfInBounds_toArray, List.set_cons_zero, List.set_cons_succ]
              refine wpAnyS_take (i := 20) (oi := ⟨some 82, _, _, _, _, _⟩) (v := .string y) rfl (by kernel_rfl) (by kernel_rfl) (by kernel_rfl) (by kernel_rfl) (fun _ _ _ h => Norm.panic h) (Or.inl ⟨by rfl, ?_⟩) (by assumption) ?_
              · intro w' hSw
                obtain ⟨k1, k2, k3, k4⟩ := hSw
                go_simp
              simp only [Act.put, List.setIfInBounds_toArray, List.set_cons_zero, List.set_cons_succ]
              refine wpAnyS_take (i := 21) (oi := ⟨some 83, _, _, _, _, _⟩) (v := .pointer (some ⟨B2, 1, none⟩)) rfl (by kernel_rfl) (by kernel_rfl) (by kernel_rfl) (by kernel_rfl) (fun _ _ _ h => Norm.panic h) (Or.inl ⟨by rfl, ?_⟩) (by assumption) ?_
              · intro w' hSw
                obtain ⟨k1, k2, k3, k4⟩ := hSw
                go_simp
              simp only [Act.put, List.setIfInBounds_toArray, List.set_cons_zero, List.set_cons_succ]
              refine wpAnyS_take (i := 22) (oi := ⟨some 84, _, _, _, _, _⟩) (v := .string y) rfl (by kernel_rfl) (by kernel_rfl) (by kernel_rfl) (by kernel_rfl) (fun _ _ _ h => Norm.panic h) (Or.inl ⟨by rfl, ?_⟩) (by assumption) ?_
              · intro w' hSw
                obtain ⟨k1, k2, k3, k4⟩ := hSw
                go_simp
              simp only [Act.put, List.setIfInBounds_toArray, List.set_cons_zero, List.set_cons_succ]
              refine wpAnyS_take (i := 23) (oi := ⟨some 85, _, _, _, _, _⟩) (v := .bool false) rfl (by kernel_rfl) (by kernel_rfl) (by kernel_rfl) (by kernel_rfl) (fun _ _ _ h => Norm.panic h) (Or.inl ⟨by rfl, ?_⟩) (by assumption) ?_
              · intro w' hSw
                obtain ⟨k1, k2, k3, k4⟩ := hSw
                go_simp
              simp only [Act.put, List.setIfInBounds_toArray, List.set_cons_zero, List.set_cons_succ]
              refine wpAnyS_take (i := 24) (oi := ⟨some 86, _, _, _, _, _⟩) (v := .bool false) rfl (by kernel_rfl) (by kernel_rfl) (by kernel_rfl) (by kernel_rfl) (fun _ _ _ h => Norm.panic h) (Or.inl ⟨by rfl, ?_⟩) (by assumption) ?_
              · intro w' hSw
                obtain ⟨k1, k2, k3, k4⟩ := hSw
                go_simp
              simp only [Act.put, List.setIfInBounds_toArray, List.set_cons_zero, List.set_cons_succ]
              refine wpAnyS_done (by kernel_rfl) ?_
              refine Norm.normal ?_
              have hkk : k = 4 ∨ (k ≠ 4 ∧ k' = 4) ∨ (k ≠ 4 ∧ k' ≠ 4 ∧ k' = 2) := by omega
              clear hK hHeld
              have HBE := Lib.hid (show LoR s g w (.int .i64 ((i : Int) + 1)) w3.drew from ⟨i + 1, by go_num, by omega, Below.drew (HBR.out.trans (HB3.out.mono HBR.out.size)), HTR.out.grow (Below.drew HB3.out)⟩)
              clear HB3 HTR HBR r1 r4 t1 t4 hz1 hz2
              rcases hkk with hk | ⟨hk, hk'⟩ | ⟨hk, hk', hk2⟩
              · have g1 : ((k : Int) != 4) = false := by simp; omega
                go_wp2_with fail
                exact ⟨HBE.out, by simp [intOf]; omega⟩
              · have g1 : ((k : Int) != 4) = true := by simp; omega
                have g2 : ((k' : Int) != 4) = false := by simp; omega
                go_wp2_with fail
                exact ⟨HBE.out, by simp [intOf]; omega⟩
              · have g1 : ((k : Int) != 4) = true := by simp; omega
                have g2 : ((k' : Int) != 4) = true := by simp; omega
                have g3 : ((k' : Int) != 2) = false := by simp; omega
                go_wp2_with fail
                exact ⟨HBE.out, by simp [intOf]; omega⟩
            · have f1 : ((a : Int) + (x.size : Int) != (a' : Int)) = true := by simp; omega
              go_wp2_with fail
              exact ⟨⟨i + 1, by go_num, by omega, HBR.out.trans (HBB.out.mono HBR.out.size), HTR.out.grow HBB.out⟩, by simp [intOf]; omega⟩
          · have ht1 : (tgL s).length ≤ 3001 := by omega
            obtain ⟨B1, hB1⟩ : ∃ B, B = wr.heap.size + 1 := ⟨_, rfl⟩
            obtain ⟨B2, hB2⟩ : ∃ B, B = wr.heap.size := ⟨_, rfl⟩
            have q1 : (((wr.alloc (.cells #[.int .u8 (k' : Int), .string y, .int .i64 (a' : Int)] 26)).alloc (.cells #[.int .u8 (k : Int), .string x, .int .i64 (a : Int)] 26)).drew).cell? ⟨wr.heap.size + 1, 0, none⟩ = some (.int .u8 (k : Int)) := by rw [World.cell?_drew, World.cell?_alloc_at _ _ _ _ (by rw [World.size_alloc])]; rfl
            have q2 : (((wr.alloc (.cells #[.int .u8 (k' : Int), .string y, .int .i64 (a' : Int)] 26)).alloc (.cells #[.int .u8 (k : Int), .string x, .int .i64 (a : Int)] 26)).drew).cell? ⟨wr.heap.size + 1, 1, none⟩ = some (.string x) := by rw [World.cell?_drew, World.cell?_alloc_at _ _ _ _ (by rw [World.size_alloc])]; rfl
            have q3 : (((wr.alloc (.cells #[.int .u8 (k' : Int), .string y, .int .i64 (a' : Int)] 26)).alloc (.cells #[.int .u8 (k : Int), .string x, .int .i64 (a : Int)] 26)).drew).cell? ⟨wr.heap.size + 1, 2, none⟩ = some (.int .i64 (a : Int)) := by rw [World.cell?_drew, World.cell?_alloc_at _ _ _ _ (by rw [World.size_alloc])]; rfl
            have q4 : (((wr.alloc (.cells #[.int .u8 (k' : Int), .string y, .int .i64 (a' : Int)] 26)).alloc (.cells #[.int .u8 (k : Int), .string x, .int .i64 (a : Int)] 26)).drew).cell? ⟨wr.heap.size, 0, none⟩ = some (.int .u8 (k' : Int)) := by rw [World.cell?_drew, World.cell?_alloc_lt _ _ _ (by rw [World.size_alloc]; exact Nat.lt_succ_self _), World.cell?_alloc_at _ _ _ _ rfl]; rfl
            have q5 : (((wr.alloc (.cells #[.int .u8 (k' : Int), .string y, .int .i64 (a' : Int)] 26)).alloc (.cells #[.int .u8 (k : Int), .string x, .int .i64 (a : Int)] 26)).drew).cell? ⟨wr.heap.size, 1, none⟩ = some (.string y) := by rw [World.cell?_drew, World.cell?_alloc_lt _ _ _ (by rw [World.size_alloc]; exact Nat.lt_succ_self _), World.cell?_alloc_at _ _ _ _ rfl]; rfl
            have q6 : (((wr.alloc (.cells #[.int .u8 (k' : Int), .string y, .int .i64 (a' : Int)] 26)).alloc (.cells #[.int .u8 (k : Int), .string x, .int .i64 (a : Int)] 26)).drew).cell? ⟨wr.heap.size, 2, none⟩ = some (.int .i64 (a' : Int)) := by rw [World.cell?_drew, World.cell?_alloc_lt _ _ _ (by rw [World.size_alloc]; exact Nat.lt_succ_self _), World.cell?_alloc_at _ _ _ _ rfl]; rfl
            have HBB := Lib.hid (show Below wr.heap.size wr (((wr.alloc (.cells #[.int .u8 (k' : Int), .string y, .int .i64 (a' : Int)] 26)).alloc (.cells #[.int .u8 (k : Int), .string x, .int .i64 (a : Int)] 26)).drew) from Below.drew (((Below.refl _ _).alloc (Nat.le_refl _) _).alloc (by rw [World.size_alloc]; exact Nat.le_succ _) _))
            have hw2 : (((wr.alloc (.cells #[.int .u8 (k' : Int), .string y, .int .i64 (a' : Int)] 26)).alloc (.cells #[.int .u8 (k : Int), .string x, .int .i64 (a : Int)] 26)).drew).heap.size = wr.heap.size + 2 := by rw [World.size_drew, World.size_alloc, World.size_alloc]
            rw [← hB1] at q1 q2 q3
            rw [← hB2] at q4 q5 q6
            rw [← hB1]
            rw [← hB2]
            have Q1 := Lib.hid q1
            have Q2 := Lib.hid q2
            have Q3 := Lib.hid q3
            have Q4 := Lib.hid q4
            have Q5 := Lib.hid q5
            have Q6 := Lib.hid q6
            clear q1 q2 q3 q4 q5 q6
            generalize ((wr.alloc (.cells #[.int .u8 (k' : Int), .string y, .int .i64 (a' : Int)] 26)).alloc (.cells #[.int .u8 (k : Int), .string x, .int .i64 (a : Int)] 26)).drew = W0 at HBB Q1 Q2 Q3 Q4 Q5 Q6 hw2 ⊢
            have hz1 : B1 < W0.heap.size := by omega
            have hz2 : B2 < W0.heap.size := by omega
            clear hB1 hB2 hw2
            have q1 := Q1.out
            have q2 := Q2.out
            have q3 := Q3.out
            have q4 := Q4.out
            have q5 := Q5.out
            have q6 := Q6.out
            clear Q1 Q2 Q3 Q4 Q5 Q6 c0 c1 c2 e0 e1 e2
            by_cases haj : a + x.size = a'
            · have f1 : ((a : Int) + (x.size : Int) != (a' : Int)) = false := by simp; omega
              obtain ⟨hE, hT, hK⟩ := H5.out haj
              have hX := lex_ok (x ++ y) W0 (by rw [ByteArray.size_append]; omega) hE
              rw [hT] at hX
              have HX := Lib.hid hX
              clear hX hE hT H5 HL HA HE
              go_wp2_with fail
              with_reducible refine (HX.out).mono ?_
              rintro e w3 ⟨g2, cap2, rfl, hb3, hg3, ht3⟩
              obtain ⟨g', o, hgo, hg2, r0, r1, r2⟩ := ht3.get (i := 0) (by simp)
              injection hgo with hgo
              injection hgo with hgo hgo2
              subst hgo; subst hgo2
              obtain ⟨g', o, hgo, hg2', r3, r4, r5⟩ := ht3.get (i := 1) (by simp)
              injection hgo with hgo
              injection hgo with hgo hgo2
              subst hgo; subst hgo2
              have r1 : w3.cell? ⟨g2, 1, none⟩ = some (.string x) := r1
              have r4 : w3.cell? ⟨g2, 4, none⟩ = some (.string y) := r4
              have t0 := (hb3.cell (p := ⟨B1, 0, none⟩) hz1).trans q1
              have t1 := (hb3.cell (p := ⟨B1, 1, none⟩) hz1).trans q2
              have t3 := (hb3.cell (p := ⟨B2, 0, none⟩) hz2).trans q4
              have t4 := (hb3.cell (p := ⟨B2, 1, none⟩) hz2).trans q5
              have HB3 := Lib.hid (HBB.out.trans (hb3.mono HBB.out.size))
              clear r0 r2 r3 r5 ht3 hb3 hg3 hg2 hg2' HX HBB q1 q2 q3 q4 q5 q6 f1
              go_wp2_with fail
              refine wp_region_S (fun w' => w'.cell? ⟨g2, 1, none⟩ = some (.string x) ∧ w'.cell? ⟨g2, 4, none⟩ = some (.string y) ∧ w'.cell? ⟨B1, 1, none⟩ = some (.string x) ∧ w'.cell? ⟨B2, 1, none⟩ = some (.string y)) [] 25 #[false, false, false, false, false, false, false, false, false, false, false, false, false, false, false, false, false, false, false, false, false, false, false, false, false] (by kernel_rfl) (by kernel_rfl) (by kernel_rfl)
                (by rw [World.cell?_drew, World.cell?_drew, World.cell?_drew, World.cell?_drew]; exact ⟨r1, r4, t1, t4⟩) (fun hHeld => ?_)
              refine wpAnyS_take (i := 0) (oi := ⟨some 62, _, _, _, _, _⟩) (v := .int .i64 0) rfl (by kernel_rfl) (by kernel_rfl) (by kernel_rfl) (by kernel_rfl) (fun _ _ _ h => Norm.panic h) (Or.inl ⟨by rfl, ?_⟩) (by assumption) ?_
              · intro w' hSw
                obtain ⟨k1, k2, k3, k4⟩ := hSw
                go_simp
              simp only [Act.put, List.setIfInBounds_toArray, List.set_cons_zero, List.set_cons_succ]
              refine wpAnyS_take (i := 1) (oi := ⟨some 63, _, _, _, _, _⟩) (v := .bool false) rfl (by kernel_rfl) (by kernel_rfl) (by kernel_rfl) (by kernel_rfl) (fun _ _ _ h => Norm.panic h) (Or.inl ⟨by rfl, ?_⟩) (by assumption) ?_
              · intro w' hSw
                obtain ⟨k1, k2, k3, k4⟩ := hSw
                go_simp
              simp only [Act.put, List.setIfInBounds_toArray, List.set_cons_zero, List.set_cons_succ]
              refine wpAnyS_take (i := 2) (oi := ⟨some 64, _, _, _, _, _⟩) (v := .bool false) rfl (by kernel_rfl) (by kernel_rfl) (by kernel_rfl) (by kernel_rfl) (fun _ _ _ h => Norm.panic h) (Or.inl ⟨by rfl, ?_⟩) (by assumption) ?_
              · intro w' hSw
                obtain ⟨k1, k2, k3, k4⟩ := hSw
                go_simp
              simp only [Act.put, List.setIfInBounds_toArray, List.set_cons_zero, List.set_cons_succ]
              refine wpAnyS_take (i := 3) (oi := ⟨some 65, _, _, _, _, _⟩) (v := .slice (some ⟨g2, 0, none⟩) 3 cap2) rfl (by kernel_rfl) (by kernel_rfl) (by kernel_rfl) (by kernel_rfl) (fun _ _ _ h => Norm.panic h) (Or.inl ⟨by rfl, ?_⟩) (by assumption) ?_
              · intro w' hSw
                obtain ⟨k1, k2, k3, k4⟩ := hSw
                go_simp
              simp only [Act.put, List.setIfInBounds_toArray, List.set_cons_zero, List.set_cons_succ]
              refine wpAnyS_take (i := 4) (oi := ⟨some 66, _, _, _, _, _⟩) (v := .int .i64 3) rfl (by kernel_rfl) (by kernel_rfl) (by kernel_rfl) (by kernel_rfl) (fun _ _ _ h => Norm.panic h) (Or.inl ⟨by rfl, ?_⟩) (by assumption) ?_
              · intro w' hSw
                obtain ⟨k1, k2, k3, k4⟩ := hSw
                go_simp
              simp only [Act.put, List.setIfInBounds_toArray, List.set_cons_zero, List.set_cons_succ]
              refine wpAnyS_take (i := 5) (oi := ⟨some 67, _, _, _, _, _⟩) (v := .bool false) rfl (by kernel_rfl) (by kernel_rfl) (by kernel_rfl) (by kernel_rfl) (fun _ _ _ h => Norm.panic h) (Or.inl ⟨by rfl, ?_⟩) (by assumption) ?_
              · intro w' hSw
                obtain ⟨k1, k2, k3, k4⟩ := hSw
                go_simp
              simp only [Act.put, List.setIfInBounds_toArray, List.set_cons_zero, List.set_cons_succ]
              refine wpAnyS_take (i := 6) (oi := ⟨some 68, _, _, _, _, _⟩) (v := .bool false) rfl (by kernel_rfl) (by kernel_rfl) (by kernel_rfl) (by kernel_rfl) (fun _ _ _ h => Norm.panic h) (Or.inl ⟨by rfl, ?_⟩) (by assumption) ?_
              · intro w' hSw
                obtain ⟨k1, k2, k3, k4⟩ := hSw
                go_simp
              simp only [Act.put, List.setIfInBounds_toArray, List.set_cons_zero, List.set_cons_succ]
              refine wpAnyS_take (i := 7) (oi := ⟨some 69, _, _, _, _, _⟩) (v := .bool false) rfl (by kernel_rfl) (by kernel_rfl) (by kernel_rfl) (by kernel_rfl) (fun _ _ _ h => Norm.panic h) (Or.inl ⟨by rfl, ?_⟩) (by assumption) ?_
              · intro w' hSw
                obtain ⟨k1, k2, k3, k4⟩ := hSw
                go_simp
              simp only [Act.put, List.setIfInBounds_toArray, List.set_cons_zero, List.set_cons_succ]
              refine wpAnyS_take (i := 8) (oi := ⟨some 70, _, _, _, _, _⟩) (v := .slice (some ⟨g2, 0, none⟩) 3 cap2) rfl (by kernel_rfl) (by kernel_rfl) (by kernel_rfl) (by kernel_rfl) (fun _ _ _ h => Norm.panic h) (Or.inl ⟨by rfl, ?_⟩) (by assumption) ?_
              · intro w' hSw
                obtain ⟨k1, k2, k3, k4⟩ := hSw
                go_simp
              simp only [Act.put, List.setIfInBounds_toArray, List.set_cons_zero, List.set_cons_succ]
              refine wpAnyS_take (i := 9) (oi := ⟨some 71, _, _, _, _, _⟩) (v := .pointer (some ⟨g2, 0, none⟩)) rfl (by kernel_rfl) (by kernel_rfl) (by kernel_rfl) (by kernel_rfl) (fun _ _ _ h => Norm.panic h) (Or.inl ⟨by rfl, ?_⟩) (by assumption) ?_
              · intro w' hSw
                obtain ⟨k1, k2, k3, k4⟩ := hSw
                go_simp
              simp only [Act.put, List.setIfInBounds_toArray, List.set_cons_zero, List.set_cons_succ]
              refine wpAnyS_take (i := 10) (oi := ⟨some 72, _, _, _, _, _⟩) (v := .pointer (some ⟨g2, 1, none⟩)) rfl (by kernel_rfl) (by kernel_rfl) (by kernel_rfl) (by kernel_rfl) (fun _ _ _ h => Norm.panic h) (Or.inl ⟨by rfl, ?_⟩) (by assumption) ?_
              · intro w' hSw
                obtain ⟨k1, k2, k3, k4⟩ := hSw
                go_simp
              simp only [Act.put, List.setIfInBounds_toArray, List.set_cons_zero, List.set_cons_succ]
              refine wpAnyS_take (i := 11) (oi := ⟨some 73, _, _, _, _, _⟩) (v := .string x) rfl (by kernel_rfl) (by kernel_rfl) (by kernel_rfl) (by kernel_rfl) (fun _ _ _ h => Norm.panic h) (Or.inl ⟨by rfl, ?_⟩) (by assumption) ?_
              · intro w' hSw
                obtain ⟨k1, k2, k3, k4⟩ := hSw
                go_simp
              simp only [Act.put, List.setIfInBounds_toArray, List.set_cons_zero, List.set_cons_succ]
              refine wpAnyS_take (i := 12) (oi := ⟨some 74, _, _, _, _, _⟩) (v := .pointer (some ⟨B1, 1, none⟩)) rfl (by kernel_rfl) (by kernel_rfl) (by kernel_rfl) (by kernel_rfl) (fun _ _ _ h => Norm.panic h) (Or.inl ⟨by rfl, ?_⟩) (by assumption) ?_
              · intro w' hSw
                obtain ⟨k1, k2, k3, k4⟩ := hSw
                go_simp
              simp only [Act.put, List.setIfInBounds_toArray, List.set_cons_zero, List.set_cons_succ]
              refine wpAnyS_take (i := 13) (oi := ⟨some 75, _, _, _, _, _⟩) (v := .string x) rfl (by kernel_rfl) (by kernel_rfl) (by kernel_rfl) (by kernel_rfl) (fun _ _ _ h => Norm.panic h) (Or.inl ⟨by rfl, ?_⟩) (by assumption) ?_
              · intro w' hSw
                obtain ⟨k1, k2, k3, k4⟩ := hSw
                go_simp
              simp only [Act.put, List.setIfInBounds_toArray, List.set_cons_zero, List.set_cons_succ]
              refine wpAnyS_take (i := 14) (oi := ⟨some 76, _, _, _, _, _⟩) (v := .bool false) rfl (by kernel_rfl) (by kernel_rfl) (by kernel_rfl) (by kernel_rfl) (fun _ _ _ h => Norm.panic h) (Or.inl ⟨by rfl, ?_⟩) (by assumption) ?_
              · intro w' hSw
                obtain ⟨k1, k2, k3, k4⟩ := hSw
                go_simp
              simp only [Act.put, List.setIfInBounds_toArray, List.set_cons_zero, List.set_cons_succ]
              refine wpAnyS_take (i := 15) (oi := ⟨some 77, _, _, _, _, _⟩) (v := .bool false) rfl (by kernel_rfl) (by kernel_rfl) (by kernel_rfl) (by kernel_rfl) (fun _ _ _ h => Norm.panic h) (Or.inl ⟨by rfl, ?_⟩) (by assumption) ?_
              · intro w' hSw
                obtain ⟨k1, k2, k3, k4⟩ := hSw
                go_simp
              simp only [Act.put, List.setIfInBounds_toArray, List.set_cons_zero, List.set_cons_succ]
              refine wpAnyS_take (i := 16) (oi := ⟨some 78, _, _, _, _, _⟩) (v := .bool false) rfl (by kernel_rfl) (by kernel_rfl) (by kernel_rfl) (by kernel_rfl) (fun _ _ _ h => Norm.panic h) (Or.inl ⟨by rfl, ?_⟩) (by assumption) ?_
              · intro w' hSw
                obtain ⟨k1, k2, k3, k4⟩ := hSw
                go_simp
              simp only [Act.put, List.setIfInBounds_toArray, List.set_cons_zero, List.set_cons_succ]
              refine wpAnyS_take (i := 17) (oi := ⟨some 79, _, _, _, _, _⟩) (v := .slice (some ⟨g2, 0, none⟩) 3 cap2) rfl (by kernel_rfl) (by kernel_rfl) (by kernel_rfl) (by kernel_rfl) (fun _ _ _ h => Norm.panic h) (Or.inl ⟨by rfl, ?_⟩) (by assumption) ?_
              · intro w' hSw
                obtain ⟨k1, k2, k3, k4⟩ := hSw
                go_simp
              simp only [Act.put, List.setIfInBounds_toArray, List.set_cons_zero, List.set_cons_succ]
              refine wpAnyS_take (i := 18) (oi := ⟨some 80, _, _, _, _, _⟩) (v := .pointer (some ⟨g2, 3, none⟩)) rfl (by kernel_rfl) (by kernel_rfl) (by kernel_rfl) (by kernel_rfl) (fun _ _ _ h => Norm.panic h) (Or.inl ⟨by rfl, ?_⟩) (by assumption) ?_
              · intro w' hSw
                obtain ⟨k1, k2, k3, k4⟩ := hSw
                go_simp
              simp only [Act.put, List.setIfInBounds_toArray, List.set_cons_zero, List.set_cons_succ]
              refine wpAnyS_take (i := 19) (oi := ⟨some 81, _, _, _, _, _⟩) (v := .pointer (some ⟨g2, 4, none⟩)) rfl (by kernel_rfl) (by kernel_rfl) (by kernel_rfl) (by kernel_rfl) (fun _ _ _ h => Norm.panic h) (Or.inl ⟨by rfl, ?_⟩) (by assumption) ?_
              · intro w' hSw
                obtain ⟨k1, k2, k3, k4⟩ := hSw
                go_simp
              simp only [Act.put, List.setIfInBounds_toArray, List.set_cons_zero, List.set_cons_succ]
              refine wpAnyS_take (i := 20) (oi := ⟨some 82, _, _, _, _, _⟩) (v := .string y) rfl (by kernel_rfl) (by kernel_rfl) (by kernel_rfl) (by kernel_rfl) (fun _ _ _ h => Norm.panic h) (Or.inl ⟨by rfl, ?_⟩) (by assumption) ?_
              · intro w' hSw
                obtain ⟨k1, k2, k3, k4⟩ := hSw
                go_simp
              simp only [Act.put, List.setIfInBounds_toArray, List.set_cons_zero, List.set_cons_succ]
              refine wpAnyS_take (i := 21) (oi := ⟨some 83, _, _, _, _, _⟩) (v := .pointer (some ⟨B2, 1, none⟩)) rfl (by kernel_rfl) (by kernel_rfl) (by kernel_rfl) (by kernel_rfl) (fun _ _ _ h => Norm.panic h) (Or.inl ⟨by rfl, ?_⟩) (by assumption) ?_
              · intro w' hSw
                obtain ⟨k1, k2, k3, k4⟩ := hSw
                go_simp
              simp only [Act.put, List.setIfInBounds_toArray, List.set_cons_zero, List.set_cons_succ]
              refine wpAnyS_take (i := 22) (oi := ⟨some 84, _, _, _, _, _⟩) (v := .string y) rfl (by kernel_rfl) (by kernel_rfl) (by kernel_rfl) (by kernel_rfl) (fun _ _ _ h => Norm.panic h) (Or.inl ⟨by rfl, ?_⟩) (by assumption) ?_
              · intro w' hSw
                obtain ⟨k1, k2, k3, k4⟩ := hSw
                go_simp
              simp only [Act.put, List.setIfInBounds_toArray, List.set_cons_zero, List.set_cons_succ]
              refine wpAnyS_take (i := 23) (oi := ⟨some 85, _, _, _, _, _⟩) (v := .bool false) rfl (by kernel_rfl) (by kernel_rfl) (by kernel_rfl) (by kernel_rfl) (fun _ _ _ h => Norm.panic h) (Or.inl ⟨by rfl, ?_⟩) (by assumption) ?_
              · intro w' hSw
                obtain ⟨k1, k2, k3, k4⟩ := hSw
                go_simp
              simp only [Act.put, List.setIfInBounds_toArray, List.set_cons_zero, List.set_cons_succ]
              refine wpAnyS_take (i := 24) (oi := ⟨some 86, _, _, _, _, _⟩) (v := .bool false) rfl (by kernel_rfl) (by kernel_rfl) (by kernel_rfl) (by kernel_rfl) (fun _ _ _ h => Norm.panic h) (Or.inl ⟨by rfl, ?_⟩) (by assumption) ?_
              · intro w' hSw
                obtain ⟨k1, k2, k3, k4⟩ := hSw
                go_simp
              simp only [Act.put, List.setIfInBounds_toArray, List.set_cons_zero, List.set_cons_succ]
              refine wpAnyS_done (by kernel_rfl) ?_
              refine Norm.normal ?_
              have hkk : k = 4 ∨ (k ≠ 4 ∧ k' = 4) ∨ (k ≠ 4 ∧ k' ≠ 4 ∧ k' = 2) := by omega
              clear hK hHeld
              have HBE := Lib.hid (show LoR s g w (.int .i64 ((i : Int) + 1)) w3.drew from ⟨i + 1, by go_num, by omega, Below.drew (HBR.out.trans (HB3.out.mono HBR.out.size)), HTR.out.grow (Below.drew HB3.out)⟩)
              clear HB3 HTR HBR r1 r4 t1 t4 hz1 hz2
              rcases hkk with hk | ⟨hk, hk'⟩ | ⟨hk, hk', hk2⟩
              · have g1 : ((k : Int) != 4) = false := by simp; omega
                go_wp2_with fail
                exact ⟨HBE.out, by simp [intOf]; omega⟩
              · have g1 : ((k : Int) != 4) = true := by simp; omega
                have g2 : ((k' : Int) != 4) = false := by simp; omega
                go_wp2_with fail
                exact ⟨HBE.out, by simp [intOf]; omega⟩
              · have g1 : ((k : Int) != 4) = true := by simp; omega
                have g2 : ((k' : Int) != 4) = true := by simp; omega
                have g3 : ((k' : Int) != 2) = false := by simp; omega
                go_wp2_with fail
                exact ⟨HBE.out, by simp [intOf]; omega⟩
            · have f1 : ((a : Int) + (x.size : Int) != (a' : Int)) = true := by simp; omega
              go_wp2_with fail
              exact ⟨⟨i + 1, by go_num, by omega, HBR.out.trans (HBB.out.mono HBR.out.size), HTR.out.grow HBB.out⟩, by simp [intOf]; omega⟩
        · have n2 : decide ((i : Int) + 2 < ((tgL s).length : Int)) = false := decide_eq_false (by omega)
          clear htr hbr
          go_wp2_with fail
          go_ret
          exact ⟨rfl, HBR.out⟩
end Go.Proofs.Yteoaglhdandhkaa.Lx


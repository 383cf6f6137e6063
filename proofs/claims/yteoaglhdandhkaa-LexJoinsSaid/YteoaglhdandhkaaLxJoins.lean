/-
  LexJoins: Join of all tokens.
-/
import Derived.Test.YteoaglhdandhkaaLxRJoin
namespace Go.Proofs.Yteoaglhdandhkaa.Lx
open Go Go.RowKit Go.Shelf Go.Proofs.Yteoaglhdandhkaa.Fm
set_option linter.unusedVariables false
set_option linter.unusedSimpArgs false
theorem infoR : (Try.prog.info? 27).map (fun i => (i.zero, i.size, i.bytes)) = some (some (.agg #[.int .u8 0, .string ByteArray.empty, .int .i64 0]), 3, 32) := by kernel_rfl
theorem own_tsv {w : World} {base n : Nat} {e : TypeId} {v : Value} {ts : List Tg} (h : w.ownsRow base e 3 v n (flatG ts)) (hn : n = ts.length) : ∃ b cb, v = .slice b n cb ∧ TsV w b ts := by
  rcases own_cells h with ⟨rfl, h0, _⟩ | ⟨g, cap, rfl, _, _, hg, hc⟩
  · refine ⟨none, 0, by rw [h0], ⟨.inl ?_⟩⟩
    exact List.eq_nil_of_length_eq_zero (by omega)
  · exact ⟨some ⟨g, 0, none⟩, cap, rfl, ⟨.inr ⟨g, 0, rfl, hg, fun j u hj => by rw [Nat.zero_add]; exact hc j u hj⟩⟩⟩
theorem joinB_le : ∀ l : List Bs, (∀ x ∈ l, x.length ≤ 100) → (joinB l).length ≤ 101 * l.length
  | [], _ => by simp [joinB]
  | [a], h => by have := h a (by simp); simp [joinB]; omega
  | a :: b :: r, h => by
    have h1 := h a (by simp)
    have h2 := joinB_le (b :: r) fun x hx => h x (List.mem_cons_of_mem _ hx)
    show (a ++ 32 :: joinB (b :: r)).length ≤ _
    rw [List.length_append, List.length_cons]
    simp only [List.length_cons] at h2 ⊢
    omega
theorem JJ_le (l : List ByteArray) (h : ∀ x ∈ l, x.size ≤ 100) : (JJ l).size ≤ 101 * l.length := by
  have h2 := joinB_le (l.map (·.data.toList)) fun x hx => by
    rw [List.mem_map] at hx
    obtain ⟨y, hy, rfl⟩ := hx
    have := h y hy
    simpa using this
  rw [List.length_map] at h2
  unfold JJ
  rw [join_joinB]
  show Array.size _ ≤ _
  simpa using h2
def JoR (ts : List Tg) (w : World) (v i : Value) (wr : World) : Prop := ∃ q : Nat, i = .int .i64 (q : Int) ∧ q ≤ ts.length ∧ Below w.heap.size w wr ∧ wr.ownsRow w.heap.size 27 3 v q (flatG (ts.take q)) ∧ ∀ x ∈ ts.take q, x.t.size ≤ 100
set_option maxHeartbeats 4000000 in
set_option maxRecDepth 20000 in
theorem lex_joins_c (ts : List Tg) (a : Option Addr) (ca : Nat) (w : World) (ha : TsV w a ts) (hl : ts.length ≤ 140737488351232) :
    Calls Try.prog 3 #[.slice a ts.length ca] w fun e w' => e = .returned (.bool true) ∧ Below w.heap.size w w' := by
  have HAW := Lib.hid awake_c
  have HA := Lib.hid ha
  obtain ⟨m, hm⟩ : ∃ m, ts.length = m := ⟨_, rfl⟩
  rw [hm] at hl ⊢
  have HM := Lib.hid hm
  clear ha hm
  by_cases hlong : 100 < m
  · have d1 : decide (100 < m) = true := decide_eq_true hlong
    have d2 : decide (100 < (m : Int)) = true := decide_eq_true (by omega)
    go_enter Try.func3, Try.ntmps3
    go_wp2_with ((refine (HAW.out _).mono ?_; rintro e w1 ⟨rfl, hb1⟩))
    go_ret
    exact ⟨rfl, hb1⟩
  · have d1 : decide (100 < m) = false := decide_eq_false hlong
    have d2 : decide (100 < (m : Int)) = false := decide_eq_false (by omega)
    go_enter Try.func3, Try.ntmps3
    go_wp2_with fail
    go_loopw [3, 4] (fun v i wr => JoR ts w v i wr) (fun _ i _ => m - (intOf i).toNat)
    case atStart => exact ⟨0, rfl, Nat.zero_le _, Below.refl _ _, World.ownsRow_nil _ _ _ _, by simp⟩
    case round =>
      obtain ⟨q, rfl, hq, hbr, hown, hsz⟩ := hrel
      rw [HM.out] at hq
      by_cases hlt : q < m
      · have hlt2 : q < ts.length := by have := HM.out; omega
        obtain ⟨g, o, rfl, hgw, b0, b1, b2⟩ := HA.out.get hlt2
        have c0 := (hbr.cell (p := ⟨g, o + q * 3, none⟩) hgw).trans b0
        have c1 := (hbr.cell (p := ⟨g, o + q * 3 + 1, none⟩) hgw).trans b1
        have c2 := (hbr.cell (p := ⟨g, o + q * 3 + 2, none⟩) hgw).trans b2
        clear b0 b1 b2
        have n0 : (0 : Int) ≤ (q : Int) := by omega
        have n1 : (q : Int) < (m : Int) := by omega
        have m4 : IntKind.i64.wrap ((q : Int) + 1) = (q : Int) + 1 := IntWalk.i64_in _ (by omega)
        have HBR := Lib.hid hbr
        have HS := Lib.hid hsz
        have HFL := Lib.hid (show flatG (ts.take (q + 1)) = flatG (ts.take q) ++ [.int .u8 ts[q].k, .string ts[q].t, .int .i64 ts[q].a] by
          rw [List.take_succ_eq_append_getElem hlt2]; unfold flatG; rw [List.flatMap_append]; simp [encG])
        have HSN := Lib.hid (show ts[q].t.size ≤ 100 → ∀ x ∈ ts.take (q + 1), x.t.size ≤ 100 from fun h x hx => by
          rw [List.take_succ_eq_append_getElem hlt2, List.mem_append] at hx
          rcases hx with hx | hx
          · exact HS.out x hx
          · rw [List.mem_singleton] at hx; rw [hx]; exact h)
        clear hsz
        generalize flatG (ts.take q) = xs at *
        generalize ts[q].k = x at HFL c0 ⊢
        generalize ts[q].t = y at HFL HSN c1 ⊢
        generalize ts[q].a = z at HFL c2 ⊢
        by_cases hy : 100 < y.size
        · have e1 : decide (100 < y.size) = true := decide_eq_true hy
          have e2 : decide (100 < (y.size : Int)) = true := decide_eq_true (by omega)
          clear hown hbr
          go_wp2_with ((go_at_call 9; refine (HAW.out _).mono ?_; rintro e w1 ⟨rfl, hb1⟩))
          go_ret
          exact ⟨rfl, HBR.out.trans (hb1.mono HBR.out.size)⟩
        · have e1 : decide (100 < y.size) = false := decide_eq_false hy
          have e2 : decide (100 < (y.size : Int)) = false := decide_eq_false (by omega)
          have HRW := Lib.hid (fun W (h : Below wr.heap.size wr W) => own_below hown h)
          have HLT := Lib.hid hown.lt
          obtain ⟨i0, hi, hz0, hz1, hz2⟩ := info_parts infoR
          have hz := hbr.size
          have HK := Lib.hid (show ∀ W, Below w.heap.size wr W → _ from fun W (h : Below w.heap.size wr W) => And.intro ((h.cell (p := ⟨g, o + q * 3, none⟩) hgw).trans c0) (And.intro ((h.cell (p := ⟨g, o + q * 3 + 1, none⟩) hgw).trans c1) (And.intro ((h.cell (p := ⟨g, o + q * 3 + 2, none⟩) hgw).trans c2) h)))
          clear hown hbr
          go_wp2_with fail
          go_region_held3 (fun w' => w'.cell? ⟨g, o + q * 3, none⟩ = some (.int .u8 x) ∧ w'.cell? ⟨g, o + q * 3 + 1, none⟩ = some (.string y) ∧ w'.cell? ⟨g, o + q * 3 + 2, none⟩ = some (.int .i64 z) ∧ Below w.heap.size wr w')
            ((refine HK.out _ ?_; first | assumption | exact Below.refl _ _ | exact Below.drew (Below.refl _ _) | exact Below.drew (by assumption) | exact Below.alloc (by assumption) (by omega) _ | exact Below.alloc (Below.refl _ _) (by omega) _ | exact Below.alloc (Below.drew (Below.refl _ _)) (by first | omega | exact hz) _))
            ((refine step_append_lies _ (by rfl) _ _ 24 (by rfl) w.heap.size 27 i0 (.agg #[.int .u8 0, .string ByteArray.empty, .int .i64 0]) 3 32 Try.underlying24 hi hz0 hz1 hz2 rfl (by decide) _ q xs (by rfl) (HRW.out _ (Below.alloc (Below.drew (Below.refl _ _)) (by exact Nat.le_refl _) _)) ⟨wr.heap.size, 0, none⟩ 1 1 [.int .u8 x, .string y, .int .i64 z] (by rfl) (by rfl) (new_three _ _ _ _ _) (by simp [Value.oneCell']) (by decide) (by unfold maxLen; omega) (by omega) (by simp; omega) (wr.heap.size + 1) (by simp) ?_; intro g9 k9 w7 hown7 hgrow hat hlt7; have hb7 : Below w.heap.size wr w7 := Below.grown (Below.alloc (Below.drew (Below.refl _ _)) hz _) hgrow (by rw [World.size_alloc]; exact Nat.le_succ_of_le hz) (fun k hk => (HLT.out k hk).1)))
          have HO7 := Lib.hid hown7
          have HB7 := Lib.hid hb7
          clear hown7 hgrow hat hb7 HRW
          go_wp2_with fail
          refine ⟨⟨q + 1, by go_num, by have := HM.out; omega, HBR.out.trans HB7.out, ?_, HSN.out (by omega)⟩, by simp [intOf]; omega⟩
          rw [HFL.out]
          exact HO7.out
      · obtain rfl : q = m := by omega
        have htk : ts.take q = ts := List.take_of_length_le (by have := HM.out; omega)
        rw [htk] at hown hsz
        obtain ⟨b, cb, rfl, htb⟩ := own_tsv hown HM.out.symm
        have hla : ts.length ≤ 100 := by have := HM.out; omega
        have hjl : (Lib.join ((txG ts).map (·.data.toList)) [32]).length ≤ 140737488355328 := by
          have := JJ_le (txG ts) fun x hx => by
            unfold txG at hx
            rw [List.mem_map] at hx
            obtain ⟨t, h1, rfl⟩ := hx
            exact hsz t (List.mem_filter.1 h1).1
          have h2 : (txG ts).length ≤ ts.length := by unfold txG; rw [List.length_map]; exact List.length_filter_le _ _
          have h3 : (JJ (txG ts)).size = (Lib.join ((txG ts).map (·.data.toList)) [32]).length := by unfold JJ; show (Array.size _) = _; simp
          omega
        have HJ := Lib.hid (show ∀ W, Below wr.heap.size wr W → Calls Try.prog 10 #[.slice a q ca] W fun e W' => e = .returned (.string (joinG ts)) ∧ Below wr.heap.size wr W' from fun W h => by
          have h1 := join_c ts a ca W ((HA.out.grow hbr).grow h) (by omega) hjl
          rw [HM.out] at h1
          exact h1.mono fun e W' ⟨h2, h3⟩ => ⟨h2, h.trans (h3.mono h.size)⟩)
        have HR := Lib.hid (show ∀ W, Below wr.heap.size wr W → Calls Try.prog 11 #[.slice b q cb] W fun e W' => e = .returned (.string (joinG ts)) ∧ Below wr.heap.size wr W' from fun W h => by
          have h1 := rjoin_c ts b cb W (htb.grow h) hla hsz
          rw [HM.out] at h1
          exact h1.mono fun e W' ⟨h2, h3⟩ => ⟨h2, h.trans (h3.mono h.size)⟩)
        have HS := Lib.hid (show ∀ W, Below wr.heap.size wr W → Calls Try.prog 12 #[.slice a q ca, .slice b q cb] W fun e W' => e = .returned (.bool true) ∧ Below wr.heap.size wr W' from fun W h => by
          have h1 := same_c ts a b ca cb W ((HA.out.grow hbr).grow h) (htb.grow h) (by omega)
          rw [HM.out] at h1
          exact h1.mono fun e W' ⟨h2, h3⟩ => ⟨h2, h.trans (h3.mono h.size)⟩)
        have HW := Lib.hid (show ∀ W, Below wr.heap.size wr W → Calls Try.prog 9 #[] W fun e W' => e = .returned (.bool true) ∧ Below wr.heap.size wr W' from fun W h =>
          (HAW.out W).mono fun e W' ⟨h2, h3⟩ => ⟨h2, h.trans (h3.mono h.size)⟩)
        have HBR := Lib.hid hbr
        clear hown hbr htb hjl hla htk hsz HAW HA
        generalize joinG ts = jj at HJ HR ⊢
        go_wp2_with (first
          | (go_at_call 10; refine (HJ.out _ (by first | exact Below.refl _ _ | exact Below.drew (Below.refl _ _) | assumption)).mono ?_; rintro e w1 ⟨rfl, hb1⟩)
          | (go_at_call 11; refine (HR.out _ (by assumption)).mono ?_; rintro e w2 ⟨rfl, hb2⟩)
          | (go_at_call 12; refine (HS.out _ (by assumption)).mono ?_; rintro e w3 ⟨rfl, hb3⟩)
          | (go_at_call 9; refine (HW.out _ (by assumption)).mono ?_; rintro e w4 ⟨rfl, hb4⟩))
        go_ret
        exact ⟨rfl, HBR.out.trans (hb4.mono HBR.out.size)⟩
end Go.Proofs.Yteoaglhdandhkaa.Lx

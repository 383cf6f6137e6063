/-
  The contract of list, given that of term.
-/
import Derived.Test.YtggkehncpkfakaaDoorPsTerm
import Derived.Test.YtggkehncpkfakaaDoorPsRow
namespace Go.Proofs.YtggkehncpkfakaaDoor.Ps
open Go Go.RowKit Go.Shelf Go.Proofs.YtggkehncpkfakaaDoor.Fm Go.Proofs.YtggkehncpkfakaaDoor.Lx
set_option linter.unusedVariables false
set_option linter.unusedSimpArgs false
def ListQ (P : Nat) (m : Bool) (n : Nat) (ts : List Tg) : Prop := ∀ W, PSt W P m n ts → Calls Tryd.prog 93 #[.pointer (some ⟨P, 0, none⟩), .func (.func 37) #[.pointer (some ⟨P, 0, none⟩)] #[]] W (RuQ TsVal W P n m (listC m n ts))
/-- How many tokens are left. -/
def tkM (P : Nat) (w : World) : Nat := match w.cell? ⟨P, 0, none⟩ with
  | some (.slice _ l _) => l
  | _ => 0
theorem tkM_eq {P n : Nat} {m : Bool} {ts : List Tg} {w : World} (h : PSt w P m n ts) : tkM P w = ts.length := by
  obtain ⟨g, o, cap, h1, _⟩ := h.tk
  unfold tkM
  rw [h1]
def LsRel (P : Nat) (m : Bool) (n : Nat) (x : R (List Tm)) (W : World) (N : Nat) (v : Value) (wr : World) : Prop := ∃ l r xs a k, v = .slice a l.length k ∧ PSt wr P m n r ∧ GP P W wr ∧ wr.ownsRow W.heap.size 51 3 v l.length xs ∧ RowT (ApD W.heap.size wr v) wr xs l ∧
  moreC m n l r = x ∧ l.length + r.length ≤ 30000 ∧ 0 < l.length ∧ r.length < N
theorem own_heap' {w w' : World} {base n size : Nat} {e : TypeId} {v : Value} {xs : List Value} (h : w.ownsRow base e size v n xs) (hh : ∀ g, v.ownBlock = some g → w'.heap[g]? = w.heap[g]?) : w'.ownsRow base e size v n xs := Lx.own_heap h hh
set_option maxRecDepth 20000 in
set_option maxHeartbeats 2000000 in
theorem list_of (P : Nat) (m : Bool) (n : Nat) (ts : List Tg) (hT : ∀ r : List Tg, r.length ≤ ts.length → TermQ P m n r) : ListQ P m n ts := by
  intro W h
  have hP := h.lt
  have hbd := h.bd
  have ht := hT ts (Nat.le_refl _) W h
  obtain ⟨Q, hQ⟩ : ∃ Q : Ending → World → Prop, Q = RuQ TsVal W P n m (listC m n ts) := ⟨_, rfl⟩
  rw [← hQ]
  rw [listC_eq] at hQ
  have HT := Lib.hid hT
  have HPP := Lib.hid hP
  have HBD := Lib.hid (show ts.length ≤ 30000 by omega)
  have HTL := Lib.hid (termC_len m n ts)
  clear h hT hP hbd
  cases hx : termC m n ts with
  | er a e0 =>
    rw [hx] at ht hQ
    have HQ := Lib.hid hQ
    clear hx hQ
    go_enter Tryd.func93, Tryd.ntmps93
    go_wp2_with fail
    refine ht.mono ?_
    rintro e w1 ⟨rfl, hg⟩
    refine ⟨rfl, ?_⟩
    rw [HQ.out]
    exact ⟨rfl, hg⟩
  | ok t r =>
    have HRL := Lib.hid (HTL.out t r hx)
    rw [hx] at ht hQ
    simp only [R.bind] at hQ
    generalize hX : moreC m n [t] r = X at hQ
    have HQ := Lib.hid hQ
    have HX := Lib.hid hX
    clear hx hQ hX HTL
    go_enter Tryd.func93, Tryd.ntmps93
    go_wp2_with fail
    refine ht.mono ?_
    rintro e w1 ⟨v, rfl, ⟨a2, k2, rfl, hok, htd⟩, hp, hg⟩
    have HP1 := Lib.hid hp
    have HG1 := Lib.hid hg
    have HTD := Lib.hid htd
    have HOK := Lib.hid hok
    clear hp hg htd hok ht
    go_wp2_with fail
    go_loopw [5] (fun v wr => LsRel P m n X W ts.length v wr) (fun _ wr => tkM P wr)
    case atStart =>
      have hal : Below w1.heap.size w1 (w1.alloc (.cells #[.bool t.v, .string t.n, .slice a2 t.args.length k2] 51)) := (Below.refl _ _).alloc (Nat.le_refl _) _
      refine ⟨[t], r, [.bool t.v, .string t.n, .slice a2 t.args.length k2], _, _, rfl, HP1.out.grow hal, HG1.out.tr (GP.of hal), ?_, ?_, HX.out, by have := HBD.out; have := HRL.out; simp; omega, by simp, HRL.out⟩
      · exact World.ownsRow_lit (base := W.heap.size) (size := 3) _ #[.bool t.v, .string t.n, .slice a2 t.args.length k2] 1 HG1.out.size (by unfold maxLen; omega) rfl
      · refine RowT.snoc (l := []) HOK.out (HTD.out.keep (fun b hb q => hal.cell (p := ⟨b, q, none⟩) hb.2) fun b hb => ⟨hb.1, by have := hb.2; simp; omega, fun e => ?_⟩) rfl
        have e : w1.heap.size = b := by simpa [Value.ownBlock] using e
        have := hb.2
        omega
    case round =>
      obtain ⟨l, r, xs, sa, ka, rfl, hp, hg, hown, hrow, hx, hb, hl0, hrN⟩ := hrel
      have hk := skip_c P n m r ⟨#[44]⟩ (by decide) wr hp
      unfold skT at hk
      rw [moreC_eq] at hx
      have HTK := Lib.hid (tkM_eq hp)
      have HROW := Lib.hid hrow
      have HG := Lib.hid hg
      have HB := Lib.hid hb
      have HL0 := Lib.hid hl0
      have HRN := Lib.hid hrN
      have HOWN := Lib.hid hown
      clear hp hg hb hl0 hrow hown hrN
      cases hi : is r ⟨#[44]⟩ with
      | false =>
        rw [hi] at hk hx
        simp only [Bool.false_eq_true, if_false] at hk hx
        subst hx
        clear hi
        go_wp2_with fail
        refine hk.mono ?_
        rintro e w2 ⟨rfl, hp2, hg2⟩
        go_wp2_with fail
        rw [HQ.out]
        have HZ := HG.out.size
        rcases own_cells HOWN.out with ⟨h0, h1, _⟩ | ⟨g, cap, h0, hob, hg1, hgz, hcells⟩
        · exact absurd HL0.out (by omega)
        · injection h0 with e1 e2 e3
          subst e1; subst e3
          have hcl : ∀ b, W.heap.size ≤ b → b < wr.heap.size → ∀ q, w2.cell? ⟨b, q, none⟩ = wr.cell? ⟨b, q, none⟩ := fun b hb1 hb2 q => hg2.cell (p := ⟨b, q, none⟩) hb2 (fun e => by have e : b = P := e; have := HPP.out; omega)
          refine ⟨_, rfl, ⟨some ⟨g, 0, none⟩, ka, rfl, some ⟨g, 0, none⟩, ka, g, 0, rfl, by have := HB.out; omega, .inr ⟨rfl, hg1, Nat.lt_of_lt_of_le hgz hg2.size⟩, ?_⟩, hp2, HG.out.tr hg2⟩
          refine RowT.tsD (HROW.out.keep (fun b hb q => hcl b hb.1 hb.2.1 q) fun b hb => ⟨hb.1, Nat.lt_of_lt_of_le hb.2.1 hg2.size⟩) fun j u hj => by
            rw [Nat.zero_add, hcl g hg1 hgz]
            exact hcells j u hj
      | true =>
        have hdl := drop_len hi (by decide)
        rw [hi] at hk hx
        simp only [if_true] at hk hx
        obtain ⟨r1, hr1⟩ : ∃ r1, r.drop 1 = r1 := ⟨_, rfl⟩
        rw [hr1] at hk hx hdl
        clear hi hr1
        go_wp2_with fail
        refine hk.mono ?_
        rintro e w2 ⟨rfl, hp2, hg2⟩
        have ht := HT.out r1 (by have := HRN.out; omega) w2 hp2
        have HG2 := Lib.hid hg2
        have HDL := Lib.hid hdl
        have HTL := Lib.hid (termC_len m n r1)
        clear hp2 hg2 hk hdl
        cases hx1 : termC m n r1 with
        | er a e0 =>
          rw [hx1] at ht hx
          simp only [R.bind] at hx
          subst hx
          clear hx1
          go_wp2_with fail
          refine ht.mono ?_
          rintro e w3 ⟨rfl, hg3⟩
          refine ⟨rfl, ?_⟩
          rw [HQ.out]
          exact ⟨rfl, (HG.out.tr HG2.out).tr hg3⟩
        | ok t2 r2 =>
          have HRL := Lib.hid (HTL.out t2 r2 hx1)
          rw [hx1] at ht hx
          simp only [R.bind] at hx
          have HXX := Lib.hid hx
          clear hx1 hx
          go_wp2_with fail
          refine ht.mono ?_
          rintro e w3 ⟨v3, rfl, ⟨a3, k3, rfl, hok3, htd3⟩, hp3, hg3⟩
          obtain ⟨i0, hi, hz0, hz1, hz2⟩ := info_parts infoT
          have hcl : ∀ b, W.heap.size ≤ b → b < wr.heap.size → w3.heap[b]? = wr.heap[b]? := fun b hb1 hb2 => by
            rw [hg3.block b (Nat.lt_of_lt_of_le hb2 HG2.out.size) (fun e => by have e : b = P := e; have := HPP.out; omega), HG2.out.block b hb2 (fun e => by have e : b = P := e; have := HPP.out; omega)]
          have HLT := Lib.hid HOWN.out.lt
          have HOWN3 := Lib.hid (own_heap' HOWN.out (w' := w3) fun g hg => hcl g (HLT.out g hg).1 (HLT.out g hg).2)
          have HCL := Lib.hid hcl
          have HG3 := Lib.hid ((HG.out.tr HG2.out).tr hg3)
          have HZ3 := Lib.hid (Nat.le_trans HG2.out.size hg3.size)
          have HGW3 := Lib.hid hg3.size
          have HTD3 := Lib.hid htd3
          have HOK3 := Lib.hid hok3
          have HP3 := Lib.hid hp3
          have hl3 : l.length ≤ 30000 := by have := HB.out; omega
          have hz30 : W.heap.size ≤ w3.heap.size := HG3.out.size
          clear hcl hg3 htd3 hok3 hp3 ht
          go_wp2_with ((at_builtin; refine wpList_append_lies _ (by rfl) _ _ 22 (by rfl) W.heap.size 51 i0 (.agg #[.bool false, .string ByteArray.empty, .slice none 0 0]) 3 48 Tryd.underlying22 hi hz0 hz1 hz2 rfl (by decide) _ l.length xs (by rfl) (HOWN3.out.alloc _) ⟨w3.heap.size, 0, none⟩ 1 1 [.bool t2.v, .string t2.n, .slice a3 t2.args.length k3] (by rfl) (by rfl) (new_three _ _ _ _ _) (by simp [Value.oneCell']) (by decide) (by unfold maxLen; omega) (by omega) (by simp; omega) (w3.heap.size + 1) (by simp) ?_))
          intro g cap w7 hown7 hgrow hat hlt7
          have hz7 := hgrow.size
          rw [World.size_alloc] at hz7
          have hgr : Grow (fun b => W.heap.size ≤ b) w3 w7 := Lx.grow_of_grown hgrow fun g hg => (HLT.out g hg).1
          have HGR := Lib.hid hgr
          have HC7 := Lib.hid (show ∀ b, b < w3.heap.size → Value.ownBlock _ ≠ some b → ∀ j, w7.cell? ⟨b, j, none⟩ = w3.cell? ⟨b, j, none⟩ from fun b hb hne j => by
            rw [World.cell?_of_block (hgrow.block b (by rw [World.size_alloc]; omega) (Ne.symm hne)), ((Below.refl w3.heap.size w3).alloc (Nat.le_refl _) _).cell (p := ⟨b, j, none⟩) hb])
          have HAT := Lib.hid hat
          clear hgrow hgr hat
          go_wp2_with fail
          refine ⟨⟨l ++ [t2], r2, _, some ⟨g, 0, none⟩, cap, by simp, HP3.out.keep (fun b hb => HGR.out.block b (by have := HPP.out; omega) (by have := HPP.out; omega)) (by have := HPP.out; omega), HG3.out.trans HGR.out (fun b hb => .inr hb), by simpa using hown7, ?_, HXX.out, ?_, by simp, ?_⟩, ?_⟩
          · have hn1 : ∀ b, wr.heap.size ≤ b → Value.ownBlock (.slice sa l.length ka) ≠ some b := fun b hb h => by have := (HLT.out _ h).2; omega
            have hn2 : ∀ b, b < w3.heap.size → (wr.heap.size ≤ b ∨ Value.ownBlock (.slice sa l.length ka) ≠ some b) → Value.ownBlock (.slice (some ⟨g, 0, none⟩) (l.length + 1) cap) ≠ some b := fun b hb hor h => by
              have h : g = b := by simpa [Value.ownBlock] using h
              subst h
              rcases HAT.out with h | h
              · rcases hor with h2 | h2
                · exact hn1 g h2 h
                · exact h2 h
              · omega
            have hz := HZ3.out
            have hzg := HG2.out.size
            have hgw := HG.out.size
            exact RowT.snoc HOK3.out (HTD3.out.keep (fun b hb j => HC7.out b hb.2 (hn1 b (Nat.le_trans hzg hb.1)) j) fun b hb => ⟨Nat.le_trans (Nat.le_trans hgw hzg) hb.1, by have := hb.2; omega, hn2 b hb.2 (.inl (Nat.le_trans hzg hb.1))⟩)
              (HROW.out.keep (fun b hb j => (HC7.out b (Nat.lt_of_lt_of_le hb.2.1 hz) hb.2.2 j).trans (World.cell?_of_block (a := ⟨b, j, none⟩) (HCL.out b hb.1 hb.2.1))) fun b hb => ⟨hb.1, by have := hb.2.1; omega, hn2 b (Nat.lt_of_lt_of_le hb.2.1 hz) (.inr hb.2.2)⟩)
          · have := HB.out; have := HRL.out; have := HDL.out; simp; omega
          · have := HRL.out; have := HDL.out; have := HRN.out; omega
          · rw [tkM_eq (HP3.out.keep (W' := w7) (fun b hb => HGR.out.block b (by have := HPP.out; omega) (by have := HPP.out; omega)) (by have := HPP.out; omega)), HTK.out]
            have := HRL.out; have := HDL.out; omega
end Go.Proofs.YtggkehncpkfakaaDoor.Ps

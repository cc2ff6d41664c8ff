/- The program's feed. -/
import Derived.Test.YtjmkdgjdemndaaaDoorD0
namespace Go.Proofs.YtjmkdgjdemndaaaDoor
open Go Go.RowKit
set_option maxRecDepth 20000
theorem rn_eq {r : Rn} {q : Cr} (h : kR r = q) : r.o = q.1 ∧ r.n = q.2.1 ∧ r.us = q.2.2 := by subst h; exact ⟨rfl, rfl, rfl⟩
section
variable {B : Nat} {w0 w w' : World} {lb : Nat} {F : Nat → Prop} {c : Int} {L : List Cr} {b bs br : Nat} {E : K.En} {fb p : Nat}
set_option maxHeartbeats 1000000 in
theorem takes_end (a : Value) (hp : L.length ≤ p) (w : World) (h : Cx 69 Pc B w lb F c L) :
    Calls Tryd.prog 36 #[a, .pointer (some ⟨lb, 0, none⟩), .int .i64 (p : Int)] w fun e w' => e = .returned (.bool false) ∧ Below w.heap.size w w' := by
  have HA := Lib.hid (cat_out (p : Int) (.inr (by omega)) w h)
  clear h hp
  go_enter Tryd.func36, Tryd.ntmps36
  go_wp2_with fail
  refine HA.out.mono ?_
  rintro e w1 ⟨rfl, hb⟩
  have HB := Lib.hid (Below.next hb (Joins.below_alloc1 w1 (.cells #[.int .i64 0, .int .i64 0, .slice none 0 0] 43)))
  clear hb HA
  simp only [rv, rn0]
  go_wp2
  go_ret
  exact ⟨rfl, HB.out⟩
set_option maxHeartbeats 2000000 in
theorem takes_in {v : Value} {RL : List ByteArray} (hp : p < L.length) {oe : Int} (he : E.offe = oe) (w : World) (hd : X.Wd w) (h : Cx 69 Pc B w lb F c L) (hl : K.Lx B w b bs v br RL E) :
    Calls Tryd.prog 36 #[.pointer (some ⟨b, 0, none⟩), .pointer (some ⟨lb, 0, none⟩), .int .i64 (p : Int)] w fun e w' => e = .returned (.bool (oe == 0)) ∧ ∃ v', K.Lx B w' b bs v' br RL (E.off (pxC (L.getD p kr0))) ∧ K.Lf w w' (K.ft b bs v br) (K.ft b bs v' br) := by
  have HOE := Lib.hid he
  clear he
  have hm := (h.good.each _ (show L.getD p kr0 ∈ L by rw [List.getD_eq_getElem?_getD, List.getElem?_eq_getElem hp]; exact List.getElem_mem _)).1
  have hx := pxC_size hm
  have HA := Lib.hid (cat_in p hp w h)
  have HL := Lib.hid hl
  have HD := Lib.hid hd
  clear h hp hl hd
  unfold pxC at hx ⊢
  generalize L.getD p kr0 = q at *
  obtain ⟨qo, qn, qu⟩ := q
  simp only at hm hx ⊢
  have HX := Lib.hid hx
  have HM := Lib.hid hm
  clear hm hx
  go_enter Tryd.func36, Tryd.ntmps36
  go_wp2_with fail
  refine HA.out.mono ?_
  rintro e w1 ⟨r, rfl, ho, hk, hb⟩
  obtain ⟨ro, rn, ra, rl, rc, rus⟩ := r
  obtain ⟨rfl, rfl, rfl⟩ := rn_eq hk
  have hu := ho.ru.1
  simp only [rv] at hu ⊢
  have HU := Lib.hid hu
  have HB := Lib.hid hb
  clear hu hb ho hk HA
  go_wp2_with fail
  have hB2 := Joins.below_alloc1 w1 (.cells #[.int .i64 ro, .int .i64 rn, .slice ra rl rc] 43)
  have HB2 := Lib.hid (Below.next HB.out hB2)
  refine (X.rndput_yes ro rn ra rl rc rus HM.out _ (HD.out.below HB2.out) (isUs_below HU.out hB2)).mono ?_
  rintro e w2 ⟨rfl, hb⟩
  have HB3 := Lib.hid (Below.next HB2.out hb)
  have HO := Lib.hid (K.loff_any _ HX.out w2 (HL.out.next HB3.out))
  clear hb hB2 HB2 HB HU
  rw [HOE.out] at HO
  go_wp2_with fail
  refine HO.out.mono ?_
  rintro e w3 ⟨rfl, v', hl', hf⟩
  have HF := Lib.hid ((K.Lf.ofBelow (P := K.ft b bs v br) HB3.out).trans hf)
  have HL' := Lib.hid hl'
  clear hl' hf HO
  go_wp2
  go_ret
  exact ⟨rfl, v', HL'.out, HF.out⟩
theorem fnew_any (w : World) : Calls Tryd.prog 9 #[] w fun e w' => e = .returned (.pointer (some ⟨w.heap.size, 0, none⟩)) ∧ Fc 76 w' w.heap.size 0 ∧ Below w.heap.size w w' := by
  go_enter Tryd.func9, Tryd.ntmps9
  go_wp2
  go_ret
  exact ⟨rfl, heap_alloc_new w _, Joins.below_alloc1 w _⟩
theorem fat_any {n : Int} (w : World) (h : Fc 76 w fb n) : Calls Tryd.prog 21 #[.pointer (some ⟨fb, 0, none⟩)] w fun e w' => e = .returned (.int .i64 n) ∧ w' = w := by
  have c0 := h.c0
  clear h
  go_enter Tryd.func21, Tryd.ntmps21
  go_wp2
  go_ret
  exact ⟨rfl, rfl⟩
theorem freset_any {n : Int} (w : World) (h : Fc 76 w fb n) : Calls Tryd.prog 18 #[.pointer (some ⟨fb, 0, none⟩)] w fun e w' => e = .returned (.tuple #[]) ∧ w' = w.setCell ⟨fb, 0, none⟩ (.int .i64 0) := by
  have c0 := h.c0
  have f0 := h.f0 0
  clear h
  go_enter Tryd.func18, Tryd.ntmps18
  go_wp2
  first | go_end0 | refine bodyPost_ret (results_none rfl _ _ _) rfl ?_
  exact ⟨rfl, rfl⟩
/-- The feed's cell is stored. -/
theorem Fj.put (h : Fj w0 w lb F c L b bs br E fb p) (q : Nat) : Fj w0 (w.setCell ⟨fb, 0, none⟩ (.int .i64 (q : Int))) lb F c L b bs br E fb q := by
  obtain ⟨v, RL, hx⟩ := h.lk
  have hne : ∀ k, k ≠ fb → (w.setCell ⟨fb, 0, none⟩ (.int .i64 (q : Int))).heap[k]? = w.heap[k]? := fun k hk => Below.heap_setCell _ _ _ _ hk
  refine ⟨h.bel.setCell h.flo _, h.lg.keep fun k hk => hne k fun e => ?_, ⟨v, RL, hx.same fun j hj => hne j fun e => ?_⟩, h.fd.set _, h.flo⟩
  · subst e
    exact h.lg.no h.fd (by decide) (by decide) (by decide) hk
  · subst e
    exact hx.other h.fd (by decide) (by decide) (by decide) (by decide) hj
/-- A call on the link alone. -/
theorem Fj.onL {v v' : Value} {RL RL' : List ByteArray} {bs' br' : Nat} {E' : K.En} (h : Fj w0 w lb F c L b bs br E fb p) (hx : K.Lx w0.heap.size w b bs v br RL E) (hx' : K.Lx w0.heap.size w' b bs' v' br' RL' E') {P' : Nat → Prop} (hf : K.Lf w w' (K.ft b bs v br) P') : Fj w0 w' lb F c L b bs' br' E' fb p ∧ OthF w w' := by
  have ho := K.OthL.of hx hf
  refine ⟨⟨hf.bel hx h.bel h.bel.size, h.lg.keep fun k hk => ?_, ⟨v', RL', hx'⟩, h.fd.same (ho fb _ _ _ h.fd (by decide) (by decide) (by decide) (by decide)), h.flo⟩, .ofL ho⟩
  obtain ⟨cur, t, fr, hc, ht⟩ := h.lg.typ k hk
  refine ho k cur t fr hc ?_ ?_ ?_ ?_ <;> (rcases ht with rfl | rfl | rfl <;> decide)
theorem fj_hear {f : K.Fra} {E' : K.En} {an : Bool} (hE : E.hear f = E') (ha : E.anew f = an) (hx : f.2.2.2.size ≤ 1000) (hq : E.q + E.ps.length ≤ 1000000) (w : World) (h : Fj w0 w lb F c L b bs br E fb p) :
    Calls Tryd.prog 16 #[.pointer (some ⟨b, 0, none⟩), K.fv f] w fun e w' => e = .returned (.bool an) ∧ (∃ bs' br', Fj w0 w' lb F c L b bs' br' E' fb p) ∧ OthF w w' := by
  subst hE ha
  obtain ⟨v, RL, hl⟩ := h.lk
  refine (K.lhear_any hx hq w hl).mono ?_
  rintro e w1 ⟨rfl, bs', v', br', L', hl', hf⟩
  obtain ⟨h1, h2⟩ := h.onL hl hl' hf
  exact ⟨rfl, ⟨bs', br', h1⟩, h2⟩
theorem fj_frames {n : Nat} {G : List K.Fra} (hG : E.frames = G) (hn : G.length = n) (w : World) (h : Fj w0 w lb F c L b bs br E fb p) :
    Calls Tryd.prog 23 #[.pointer (some ⟨b, 0, none⟩)] w fun e w' => ∃ a x, e = .returned (.slice a n x) ∧ K.RowF w.heap.size w' (.slice a n x) G ∧ Below w.heap.size w w' := by
  subst hG hn
  obtain ⟨v, RL, hl⟩ := h.lk
  exact K.lframes_any w hl
set_option maxHeartbeats 2000000 in
theorem pump_any {E' : K.En} {n : Nat} (hE : pumpE E (L.drop p) = E') (hn : pumpN E (L.drop p) = n) (hpl : p ≤ L.length) (hL : L.length ≤ 1000) (hd : X.Wd w0) (w : World) (h : Fj w0 w lb F c L b bs br E fb p) :
    Calls Tryd.prog 14 #[.pointer (some ⟨fb, 0, none⟩), .pointer (some ⟨lb, 0, none⟩), .pointer (some ⟨b, 0, none⟩)] w fun e w' => e = .returned (.int .i64 (n : Int)) ∧ Fj w0 w' lb F c L b bs br E' fb (p + n) ∧ OthF w w' := by
  have c0 := h.fd.c0
  have H := Lib.hid h
  have HD := Lib.hid hd
  have HE := Lib.hid hE
  have HN := Lib.hid hn
  clear h hd hE hn
  go_enter Tryd.func14, Tryd.ntmps14
  go_wp2_with fail
  clear c0
  go_loopw [] (fun wr => ∃ (j : Nat) (Ej : K.En), p + j ≤ L.length ∧ Fj w0 wr lb F c L b bs br Ej fb (p + j) ∧ OthF w wr ∧ pumpE Ej (L.drop (p + j)) = E' ∧ pumpN Ej (L.drop (p + j)) + j = n) (fun wr => L.length - (match wr.cell? ⟨fb, 0, none⟩ with | some (.int _ x) => x.toNat | _ => 0))
  case atStart => exact ⟨0, E, hpl, H.out, .ofBelow (Below.refl _ _), HE.out, HN.out⟩
  case round =>
    obtain ⟨j, Ej, hj, hf, ho, he, hn⟩ := hrel
    have c0 := hf.fd.c0
    have HJ := Lib.hid hf
    have HO := Lib.hid ho
    have HPE := Lib.hid he
    have HPN := Lib.hid hn
    clear hf ho he hn H HE HN
    by_cases h1 : p + j < L.length
    · obtain ⟨oe, hoe⟩ : ∃ o, Ej.offe = o := ⟨_, rfl⟩
      obtain ⟨v, RL, hl⟩ := HJ.out.lk
      have HL := Lib.hid hl
      have HT := Lib.hid (takes_in h1 hoe wr (HD.out.below HJ.out.bel) HJ.out.lg hl)
      have HOE := Lib.hid hoe
      clear hl hoe
      by_cases h0 : oe = 0
      · have k0 : (oe == 0) = true := by rw [beq_iff_eq]; exact h0
        rw [k0] at HT
        obtain ⟨s1, s2⟩ := pump_step h1 (HOE.out.trans h0)
        go_wp2_with fail
        refine HT.out.mono ?_
        rintro e w1 ⟨rfl, v', hl', hf⟩
        obtain ⟨h2, h3⟩ := HJ.out.onL HL.out hl' hf
        have d0 := h2.fd.c0
        have f0 := h2.fd.f0 0
        have HO2 := Lib.hid ((HO.out.trans h3).trans (.set h2.fd 0 (.int .i64 ((p + j + 1 : Nat) : Int))))
        have H2 := Lib.hid (h2.put (p + j + 1))
        have hw : IntKind.i64.wrap (((p + j : Nat) : Int) + 1) = ((p + j + 1 : Nat) : Int) := i64_id (by omega) (by omega)
        have HS1 := Lib.hid s1
        have HS2 := Lib.hid s2
        clear hl' hf h2 h3 HT c0 k0 s1 s2
        go_wp2
        go_roundw
        case rel => exact ⟨j + 1, _, h1, H2.out, HO2.out, by rw [← HPE.out, HS1.out]; rfl, by rw [← HPN.out, HS2.out, show p + (j + 1) = p + j + 1 from rfl]; omega⟩
        case measure =>
          have e2 : (w1.setCell ⟨fb, 0, none⟩ (.int .i64 ((p : Int) + (j : Int) + 1))).cell? ⟨fb, 0, none⟩ = some (.int .i64 ((p + j + 1 : Nat) : Int)) := H2.out.fd.c0
          rw [HJ.out.fd.c0, e2]
          simp only [Int.toNat_natCast]
          omega
      · have k0 : (oe == 0) = false := by rw [beq_eq_false_iff_ne]; exact h0
        rw [k0] at HT
        have hne : Ej.offe ≠ 0 := by rw [HOE.out]; exact h0
        obtain ⟨s1, s2⟩ := pump_full (L := L) (p := p + j) hne
        have HFULL := Lib.hid (off_full hne (pxC (L.getD (p + j) kr0)))
        rw [HPE.out] at s1
        rw [s2] at HPN
        have hnj : n = j := by have := HPN.out; omega
        subst hnj
        have HS1 := Lib.hid s1
        clear hne s1 s2
        go_wp2_with fail
        refine HT.out.mono ?_
        rintro e w1 ⟨rfl, v', hl', hf⟩
        rw [HFULL.out, ← HS1.out] at hl'
        rw [← HS1.out] at HL HJ
        obtain ⟨h2, h3⟩ := HJ.out.onL HL.out hl' hf
        have d0 := h2.fd.c0
        have H2 := Lib.hid h2
        have HO2 := Lib.hid (HO.out.trans h3)
        clear hl' hf h2 h3 HT c0 k0
        go_wp2
        go_ret
        exact ⟨by show Ending.returned (Value.int .i64 ((p : Int) + (n : Int) - (p : Int))) = _; rw [show (p : Int) + (n : Int) - (p : Int) = (n : Int) by omega], H2.out, HO2.out⟩
    · obtain ⟨s1, s2⟩ := pump_end (E := Ej) (L := L) (p := p + j) (by omega)
      rw [HPE.out] at s1
      rw [s2] at HPN
      have hnj : n = j := by have := HPN.out; omega
      subst hnj
      have HS1 := Lib.hid s1
      clear s1 s2
      have HT := Lib.hid (takes_end (.pointer (some ⟨b, 0, none⟩)) (p := p + n) (by omega) wr HJ.out.lg)
      go_wp2_with fail
      refine HT.out.mono ?_
      rintro e w1 ⟨rfl, hb⟩
      have h2 := HJ.out.next hb
      have d0 := h2.fd.c0
      rw [← HS1.out] at h2
      have H2 := Lib.hid h2
      have HO2 := Lib.hid (HO.out.trans (.ofBelow hb))
      clear hb h2 HT c0
      go_wp2
      go_ret
      exact ⟨by show Ending.returned (Value.int .i64 ((p : Int) + (n : Int) - (p : Int))) = _; rw [show (p : Int) + (n : Int) - (p : Int) = (n : Int) by omega], H2.out, HO2.out⟩
end
end Go.Proofs.YtjmkdgjdemndaaaDoor

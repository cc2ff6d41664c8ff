/- SenderFifo. -/
import Derived.Test.YtkpnmcchahhbdaaZT
namespace Go.Proofs.Ytkpnmcchahhbdaa
open Go Go.RowKit
set_option maxRecDepth 20000
/-- How it stands within SenderFifo: the sender, and what was got. -/
structure Ff (w wr : World) (b : Nat) (v vg : Value) (win last : Int) (k : Nat) (ds gs : List ByteArray) : Prop where
  up : Up w.heap.size w wr b v win last k ds
  got : RowS w.heap.size wr vg gs
def slLen : Value → Nat
  | .slice _ n _ => n
  | _ => 0
section
variable {w wr w' : World} {b : Nat} {v vg : Value} {win last : Int} {k : Nat} {ds gs : List ByteArray}
theorem Ff.next (h : Ff w wr b v vg win last k ds gs) (hb : Below wr.heap.size wr w') : Ff w w' b v vg win last k ds gs := ⟨h.up.next hb, h.got.below hb⟩
theorem Ff.fr {v1 : Value} {k1 : Nat} {ds1 : List ByteArray} (h : Ff w wr b v vg win last k ds gs) (hs : Sn w.heap.size w' b v1 win last k1 ds1) (hf : Fr wr w' b v.ownBlock) : Ff w w' b v1 vg win last k1 ds1 gs := by
  refine ⟨h.up.fr hs hf, h.got.same fun j hj => ?_⟩
  obtain ⟨cur, hc⟩ := h.got.typ j hj
  exact Oth.ofSn h.up.sn hf _ _ _ _ hc (by decide) (by decide) (by decide)
theorem ff_off (x : ByteArray) (hx : x.size ≤ 1000) {N E : Int} {D : List ByteArray} (hN : offN win last k ds = N) (hE : offE win last k ds = E) (hD : offD win last k ds x = D) (h : Ff w wr b v vg win last k ds gs) :
    Calls Try.prog 12 #[.pointer (some ⟨b, 0, none⟩), .string x] wr fun e w' => e = .returned (.tuple #[.int .i64 N, .int .i64 E]) ∧ ∃ v1, Ff w w' b v1 vg win last k D gs := by
  subst hN hE hD
  refine (off_any x hx wr h.up.sn).mono ?_
  rintro e w1 ⟨rfl, v1, hs, hf, _⟩
  exact ⟨rfl, v1, h.fr hs hf⟩
theorem ff_app {w5 : World} {a5 ag : Option Addr} {n5 c5 n cg : Nat} {x : ByteArray} (h : Ff w wr b v (.slice ag n cg) win last k ds gs) (hr5 : RowS w.heap.size w5 (.slice a5 n5 c5) (gs ++ [x])) (hg5 : (wr.alloc (.cells #[.string x] 9)).grownBy w5 (Value.slice ag n cg).ownBlock) : Ff w w5 b v (.slice a5 n5 c5) win last k ds (gs ++ [x]) := by
  have ha := h.next (Joins.below_alloc1 wr (.cells #[.string x] 9))
  refine ⟨⟨ha.up.sn.same (hg5.block b ha.up.sn.lt fun e => ?_) (fun j hj => hg5.block j (ha.up.sn.row.lt j hj).2 fun e => ?_), belS ha.got ha.up.bel hg5 ha.up.le, Nat.le_trans ha.up.le hg5.size⟩, hr5⟩
  · obtain ⟨cur, hc⟩ := ha.got.typ b e.symm
    exact two_types hc ha.up.sn.blk (by decide) rfl
  · obtain ⟨cur, hc⟩ := ha.got.typ j e.symm
    obtain ⟨cur', hc'⟩ := ha.up.sn.row.typ j hj
    exact two_types hc hc' (by decide) rfl
end
theorem cat_len {xs gs ds : List ByteArray} {i : Nat} (hi : i ≤ xs.length) (h : gs ++ ds = xs.take i) : gs.length + ds.length = i := by
  have := congrArg List.length h
  rw [List.length_append, List.length_take] at this
  omega
theorem cat_more {xs gs ds : List ByteArray} {i : Nat} (hi : i < xs.length) (h : gs ++ ds = xs.take i) : gs ++ (ds ++ [xs.getD i emp]) = xs.take (i + 1) := by
  rw [← List.append_assoc, h, List.take_add_one]
  simp [List.getD_eq_getElem?_getD, hi]
theorem cat_move {xs gs ds : List ByteArray} {i : Nat} (h0 : 0 < ds.length) (h : gs ++ ds = xs.take i) : (gs ++ [ds.getD 0 emp]) ++ ds.drop 1 = xs.take i := by
  rw [← h]
  cases ds with
  | nil => simp at h0
  | cons d ds => simp
theorem take_more {ds : List ByteArray} {j : Nat} (hj : j < ds.length) : ds.take j ++ [ds.getD j emp] = ds.take (j + 1) := by
  rw [List.take_add_one]
  simp [List.getD_eq_getElem?_getD, hj]
set_option maxHeartbeats 4000000 in
theorem fifo_not (W : Int) (a : Option Addr) (len cap : Nat) (hl : 100 < len) (w : World) :
    Calls Try.prog 4 #[.int .i64 W, .slice a len cap] w fun e w' => e = .returned (.bool true) ∧ Below w.heap.size w w' := by
  have HW := Lib.hid (Below.refl w.heap.size w)
  have q : decide ((100 : Int) < (len : Int)) = true := decide_eq_true (by omega)
  go_enter Try.func4, Try.ntmps4
  go_wp2_with fail
  refine (up_new W 1125899906842624 HW.out (Nat.le_refl _)).mono ?_
  rintro e w1 ⟨rfl, h⟩
  have HB1 := Lib.hid h.bel
  clear h
  go_wp2_with fail
  refine (awake_yes _).mono ?_
  rintro e w2 ⟨rfl, hb⟩
  have HB2 := Lib.hid (HB1.out.trans (hb.mono HB1.out.size))
  clear hb HB1
  go_wp2_with fail
  refine (awake_yes _).mono ?_
  rintro e w3 ⟨rfl, hb⟩
  have HB3 := Lib.hid (HB2.out.trans (hb.mono HB2.out.size))
  clear hb HB2
  go_wp2
  go_ret
  exact ⟨rfl, HB3.out⟩
/-- How it stands when the last pieces are got. -/
structure Lp (w wz : World) (B : Nat) (vp vg : Value) (k : Nat) (ds gs : List ByteArray) : Prop where
  bel : Below w.heap.size w wz
  row : RowP B wz vp k ds
  got : RowS w.heap.size wz vg gs
theorem Lp.next {w wz wz' : World} {B : Nat} {vp vg : Value} {k : Nat} {ds gs : List ByteArray} (h : Lp w wz B vp vg k ds gs) (hb : Below wz.heap.size wz wz') : Lp w wz' B vp vg k ds gs := ⟨Below.next h.bel hb, h.row.below hb, h.got.below hb⟩
theorem lp_app {w wz w5 : World} {B : Nat} {vp : Value} {k : Nat} {ds gs : List ByteArray} {a5 ag : Option Addr} {n5 c5 n cg : Nat} {x : ByteArray} (h : Lp w wz B vp (.slice ag n cg) k ds gs) (hr5 : RowS w.heap.size w5 (.slice a5 n5 c5) (gs ++ [x])) (hg5 : (wz.alloc (.cells #[.string x] 9)).grownBy w5 (Value.slice ag n cg).ownBlock) : Lp w w5 B vp (.slice a5 n5 c5) k ds (gs ++ [x]) := by
  have ha := h.next (Joins.below_alloc1 wz (.cells #[.string x] 9))
  refine ⟨belS ha.got ha.bel hg5 ha.bel.size, ha.row.same fun j hj => hg5.block j (ha.row.pr.lt j hj).2 fun e => ?_, hr5⟩
  obtain ⟨cur, hc⟩ := ha.got.typ j e.symm
  obtain ⟨cur', hc'⟩ := ha.row.pr.typ j hj
  exact two_types hc hc' (by decide) rfl
set_option maxHeartbeats 16000000 in
theorem fifo_yes (W : Int) (a : Option Addr) (len cap : Nat) (hl : len ≤ 100) (xs : List ByteArray) (w : World) (hi : SsAt w a len xs) :
    Calls Try.prog 4 #[.int .i64 W, .slice a len cap] w fun e w' => e = .returned (.bool true) ∧ Below w.heap.size w w' := by
  have HW := Lib.hid (Below.refl w.heap.size w)
  have hs := hi.size
  have HI := Lib.hid hi
  have q : decide ((100 : Int) < (len : Int)) = false := decide_eq_false (by omega)
  clear hi
  go_enter Try.func4, Try.ntmps4
  go_wp2_with fail
  refine (up_new W 1125899906842624 HW.out (Nat.le_refl _)).mono ?_
  rintro e w1 ⟨rfl, h⟩
  generalize hbb : w.heap.size = b at h ⊢
  subst hbb
  have HF1 := Lib.hid h
  clear h
  go_wp2_with fail
  refine (awake_yes _).mono ?_
  rintro e w2 ⟨rfl, hb⟩
  have HF : Hid (Ff w w2 w.heap.size (.slice none 0 0) (.slice none 0 0) (winOf W) (lastOf 1125899906842624) 0 [] []) := Lib.hid ⟨HF1.out.next hb, rowS_nil _ _⟩
  clear hb HF1
  have e2 : lastOf 1125899906842624 = 1125899906842624 := by decide
  rw [e2] at HF
  clear e2
  go_wp2_with fail
  go_loopw [32, 6] (fun v32 v6 wr => ∃ i : Nat, i ≤ len ∧ v32 = .int .i64 i ∧ ∃ v ag cg gs ds, v6 = .slice ag gs.length cg ∧ Ff w wr w.heap.size v (.slice ag gs.length cg) (winOf W) 1125899906842624 gs.length ds gs ∧ gs ++ ds = xs.take i) (fun v32 _ _ => len - (intOf v32).toNat)
  case atStart => exact ⟨0, Nat.zero_le _, rfl, _, _, _, [], [], rfl, HF.out, by simp⟩
  case round =>
    obtain ⟨i, hi, rfl, v, ag, cg, gs, ds, rfl, hf, hcat⟩ := hrel
    clear HF
    have HC := Lib.hid hcat
    clear hcat
    by_cases hlt : i < len
    · obtain ⟨g, off, rfl, hgl, hcell⟩ := HI.out.lies (by omega)
      have c0 := (hf.up.bel.cell (p := ⟨g, off + i, none⟩) hgl).trans (hcell i (by omega))
      have HF := Lib.hid hf
      clear hf hcell hgl
      obtain ⟨x, hx⟩ : ∃ x, xs.getD i emp = x := ⟨_, rfl⟩
      rw [hx] at c0
      have HX := Lib.hid hx
      clear hx
      by_cases hsz : 100 < x.size
      · have q2 : (100 : Int) < (x.size : Int) := by omega
        go_wp2
        go_ret
        exact ⟨rfl, HF.out.up.bel⟩
      have q2 : ¬ (100 : Int) < (x.size : Int) := by omega
      go_wp2_with fail
      clear c0
      go_loopw [6] (fun v6 wz => ∃ v ag cg gs ds, v6 = .slice ag gs.length cg ∧ Ff w wz w.heap.size v (.slice ag gs.length cg) (winOf W) 1125899906842624 gs.length ds gs ∧ gs ++ ds = xs.take i) (fun v6 _ => 1000 - slLen v6)
      case atStart => exact ⟨_, _, _, _, _, rfl, HF.out, HC.out⟩
      case round =>
        obtain ⟨v, ag, cg, gs, ds, rfl, hf, hcat⟩ := hrel
        clear HF HC
        have hsum := cat_len (by omega) hcat
        have hok := hf.up.sn.ok
        obtain ⟨L, hL⟩ : ∃ L : Int, (ds.length : Int) = L := ⟨_, rfl⟩
        have HUN := Lib.hid (unacked_any _ hf.up.sn)
        rw [hL] at HUN
        have HF := Lib.hid hf
        have HC := Lib.hid hcat
        clear hf hcat
        by_cases hfull : winOf W ≤ (ds.length : Int)
        · have h0 : 0 < ds.length := by have := hok.w1; omega
          have k1 : min (max W 1) 16 ≤ L := by unfold winOf at hfull; omega
          clear hok hfull hL
          go_wp2_with fail
          refine HUN.out.mono ?_
          rintro e w3 ⟨rfl, rfl⟩
          clear HUN
          go_wp2_with fail
          refine (pieces_any _ HF.out.up.sn).mono ?_
          rintro e w4 ⟨ap, cp, rfl, hrow, hb⟩
          have HF4 := Lib.hid (HF.out.next hb)
          obtain ⟨gp, rfl, _, _, d0, d1, _⟩ := hrow.cells 0 h0
          have HR := Lib.hid hrow
          clear hrow hb
          obtain ⟨Q, hQ⟩ : ∃ Q : Int, ((gs.length + 0 + 1 : Nat) : Int) = Q := ⟨_, rfl⟩
          rw [hQ, Nat.zero_mul] at d0
          rw [Nat.zero_mul, Nat.zero_add] at d1
          have e1 : IntKind.i64.wrap ((gs.length : Int) + 1) = Q := by
            rw [show (gs.length : Int) + 1 = Q by omega]
            exact i64_id (by omega) (by omega)
          have eA : ackM gs.length ds.length Q = 1 := by
            unfold ackM
            rw [if_neg (by omega)]
            omega
          have z1 : ¬ ((ds.length : Int) = 0) := by omega
          have z2 : ¬ ds.length = 0 := by omega
          go_wp2_with fail
          refine (ack_any Q w4 HF4.out.up.sn).mono ?_
          rw [eA]
          rintro e w5 ⟨rfl, v5, hs5, hf5, _⟩
          have r5 : RowP _ w5 _ _ _ := HR.out.same fun j hj => hf5.seg (lo := _) (hi := w4.heap.size) HF.out.up.sn.lt (fun j hj => .inl (HF.out.up.sn.row.lt j hj).2) (HR.out.pr.lt j hj).1 (HR.out.pr.lt j hj).2 (HR.out.pr.lt j hj).2
          obtain ⟨gp', e', _, _, f0, f1, _⟩ := r5.cells 0 h0
          cases e'
          rw [Nat.zero_mul, Nat.zero_add] at f1
          have HF5 := Lib.hid (HF4.out.fr hs5 hf5)
          have HD := Lib.hid (cat_move h0 HC.out)
          clear hs5 hf5 r5 f0 HF4 HR HF HC
          generalize ds.getD 0 emp = y at *
          go_wp2_with (at_builtin; refine wpList_appS rfl (.tmp 70) (.tmp 75) rfl w.heap.size _ gs rfl (HF5.out.got.alloc (.cells #[.string y] 9)) _ 1 1 rfl [y] (ssAt_one w5 y) (Nat.le_refl _) (fun e => by cases e) (by omega) (by have := HF5.out.up.le; simp; omega) ?_; intro a6 c6 w6 hr6 hg6 _; have HF6 := Lib.hid (ff_app HF5.out hr6 hg6); clear hr6 hg6 HF5)
          go_roundw
          case rel => exact ⟨_, _, _, _, _, by rw [List.length_append]; rfl, by rw [List.length_append]; exact HF6.out, HD.out⟩
          case measure => simp [slLen]; omega
        · have k1 : ¬ min (max W 1) 16 ≤ L := by unfold winOf at hfull; omega
          have hN : offN (winOf W) 1125899906842624 gs.length ds = ((i + 1 : Nat) : Int) := by
            unfold offN
            rw [if_neg hfull, if_neg (by omega)]
            omega
          have hE : offE (winOf W) 1125899906842624 gs.length ds = 0 := by
            unfold offE
            rw [if_neg hfull, if_neg (by omega)]
          have hD : offD (winOf W) 1125899906842624 gs.length ds x = ds ++ [x] := by
            unfold offD
            rw [if_neg hfull, if_neg (by omega)]
          have HO := Lib.hid (ff_off x (by omega) hN hE hD HF.out)
          have HC2 := Lib.hid (cat_more (by omega) HC.out)
          rw [HX.out] at HC2
          have e1 : IntKind.i64.wrap ((i : Int) + 1) = ((i + 1 : Nat) : Int) := by
            rw [show (i : Int) + 1 = ((i + 1 : Nat) : Int) by omega]
            exact i64_id (by omega) (by omega)
          clear hok hfull hL hN hE hD HF HC
          go_wp2_with fail
          refine HUN.out.mono ?_
          rintro e w3 ⟨rfl, rfl⟩
          clear HUN
          go_wp2_with fail
          refine HO.out.mono ?_
          rintro e w4 ⟨rfl, v4, hf4⟩
          have HF4 := Lib.hid hf4
          clear hf4 HO
          go_wp2
          go_roundw
          case rel => exact ⟨i + 1, by omega, by go_num, _, _, _, _, _, rfl, HF4.out, HC2.out⟩
          case measure => simp [intOf]; omega
    · obtain rfl : i = len := by omega
      have HF := Lib.hid hf
      clear hf
      have hsum := cat_len (by omega) HC.out
      go_wp2_with fail
      refine (pieces_any _ HF.out.up.sn).mono ?_
      rintro e w4 ⟨ap, cp, rfl, hrow, hb⟩
      obtain ⟨B1, hB1⟩ : ∃ B1, wr.heap.size = B1 := ⟨_, rfl⟩
      have HL : Hid (Lp w w4 B1 (.slice ap ds.length cp) (.slice ag gs.length cg) gs.length ds gs) := Lib.hid ⟨Below.next HF.out.up.bel hb, hB1 ▸ hrow, HF.out.got.below hb⟩
      clear hrow hb HF hB1
      go_wp2_with fail
      go_loopw [95, 6] (fun v95 v6 wz => ∃ j : Nat, j ≤ ds.length ∧ v95 = .int .i64 j ∧ ∃ ag cg, v6 = .slice ag (gs ++ ds.take j).length cg ∧ Lp w wz B1 (.slice ap ds.length cp) (.slice ag (gs ++ ds.take j).length cg) gs.length ds (gs ++ ds.take j)) (fun v95 _ _ => ds.length - (intOf v95).toNat)
      case atStart => exact ⟨0, Nat.zero_le _, rfl, ag, cg, by simp, by simpa using HL.out⟩
      case round =>
        obtain ⟨j, hj, rfl, ag, cg, rfl, hlp⟩ := hrel
        clear HL
        by_cases hjl : j < ds.length
        · have eT : gs ++ ds.take (j + 1) = (gs ++ ds.take j) ++ [ds.getD j emp] := by rw [List.append_assoc, take_more hjl]
          have hgl : (gs ++ ds.take j).length ≤ 100 := by rw [List.length_append, List.length_take]; omega
          obtain ⟨gp, rfl, _, _, d0, d1, _⟩ := hlp.row.cells j hjl
          have HET := Lib.hid eT
          have HL := Lib.hid hlp
          clear hlp eT
          obtain ⟨Q, hQ⟩ : ∃ Q : Int, ((gs.length + j + 1 : Nat) : Int) = Q := ⟨_, rfl⟩
          rw [hQ] at d0
          clear hQ
          generalize ds.getD j emp = y at *
          have HL1 := Lib.hid (HL.out.next (Joins.below_alloc1 _ (.cells #[.int .i64 Q, .string y] 46)))
          generalize hG : gs ++ ds.take j = G at *
          have hone := ssAt_one (wr.alloc (.cells #[.int .i64 Q, .string y] 46)) y
          rw [show (wr.alloc (.cells #[.int .i64 Q, .string y] 46)).heap.size = wr.heap.size + 1 by simp] at hone
          have HONE := Lib.hid hone
          clear hG HL hone
          go_wp2_with (at_builtin; refine wpList_appS rfl (.tmp 99) (.tmp 102) rfl w.heap.size _ G rfl (HL1.out.got.alloc (.cells #[.string y] 9)) _ 1 1 rfl [y] HONE.out (Nat.le_refl _) (fun e => by cases e) (by omega) (by have := HL1.out.bel.size; simp at this ⊢; omega) ?_; intro a6 c6 w6 hr6 hg6 _; have HL6 := Lib.hid (lp_app HL1.out hr6 hg6); clear hr6 hg6 HL1)
          go_roundw
          case rel => exact ⟨j + 1, by omega, by go_num, a6, c6, by rw [HET.out, List.length_append]; rfl, by rw [HET.out, List.length_append]; exact HL6.out⟩
          case measure => simp [intOf]; omega
        · obtain rfl : j = ds.length := by omega
          have eX : gs ++ ds.take ds.length = xs := by rw [List.take_length, HC.out, List.take_of_length_le (by omega)]
          have eL : (gs ++ ds.take ds.length).length = i := by rw [eX]; exact hs
          rw [eL, eX] at hlp
          rw [eL]
          have HB := Lib.hid hlp.bel
          have HG := Lib.hid hlp.got
          clear hlp eX eL
          go_wp2_with fail
          go_loopw [107] (fun v107 wz => ∃ j : Nat, j ≤ i ∧ v107 = .int .i64 j ∧ Below w.heap.size w wz ∧ RowS w.heap.size wz (.slice ag i cg) xs) (fun v107 _ => i - (intOf v107).toNat)
          case atStart => exact ⟨0, Nat.zero_le _, rfl, HB.out, HG.out⟩
          case round =>
            obtain ⟨m, hm, rfl, hbel, hgot⟩ := hrel
            clear HB HG
            by_cases hml : m < i
            · obtain ⟨g, off, rfl, hgl, hcell⟩ := HI.out.lies (by omega)
              have c0 := (hbel.cell (p := ⟨g, off + m, none⟩) hgl).trans (hcell m (by omega))
              obtain ⟨hss, _, _⟩ := hgot.isS hs.symm
              obtain ⟨g2, off2, rfl, _, hcell2⟩ := hss.lies (by omega)
              have c1 := hcell2 m (by omega)
              have HB := Lib.hid hbel
              have HG := Lib.hid hgot
              clear hbel hgot hcell hcell2 hss hgl
              generalize xs.getD m emp = y at *
              have qq := eq_yes y
              have k1 : ¬ (i : Int) ≤ (m : Int) := by omega
              go_wp2
              go_roundw
              case rel => exact ⟨m + 1, by omega, by go_num, HB.out, HG.out⟩
              case measure => simp [intOf]; omega
            · obtain rfl : m = i := by omega
              have HB := Lib.hid hbel
              clear hbel hgot
              go_wp2
              go_ret
              exact ⟨rfl, HB.out⟩
end Go.Proofs.Ytkpnmcchahhbdaa

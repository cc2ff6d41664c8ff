/- The walk of ReplayEchoes. -/
import Derived.Test.YteonmljchcekpaaYB
import Derived.Test.YteonmljchcekpaaYS
import Derived.Deep.RegionHeld3
namespace Go.Proofs.Yteonmljchcekpaa
open Go Go.RowKit Go.Maps Go.Sort
set_option maxRecDepth 20000
theorem RowU.lower {B B' w v l} (h : RowU B w v l) (hB : B' ≤ B) : RowU B' w v l := by
  obtain ⟨h1, h2⟩ := h
  refine ⟨h1, ?_⟩
  rcases h2 with h0 | ⟨g, cap, cur, e, hb, r⟩
  · exact .inl h0
  · exact .inr ⟨g, cap, cur, e, by omega, r⟩
theorem rsAt_new (w : World) (r : Rn) {n : Nat} (h : w.heap.size = n) : RsAt (w.alloc (.cells #[.int .i64 r.o, .int .i64 r.n, .slice r.a r.len r.cap] 45)) (some ⟨n, 0, none⟩) 1 [r] := by
  subst h; exact rsAt_one w r
theorem isUs_drew {w : World} {a : Option Addr} {len : Nat} {us : List Up} (h : IsUs w a len us) : IsUs w.drew a len us :=
  ⟨h.size, fun h0 => by obtain ⟨b, off, e, hf⟩ := h.lies h0; exact ⟨b, off, e, ⟨hf.key, hf.k, hf.n, hf.t⟩⟩⟩
theorem isRs_drew {w : World} {a : Option Addr} {len : Nat} {rs : List Rn} (h : IsRs w a len rs) : IsRs w.drew a len rs :=
  ⟨h.size, fun h0 => by obtain ⟨b, off, e, hf⟩ := h.lies h0; exact ⟨b, off, e, ⟨hf.o, hf.n, hf.u⟩⟩, fun r hr => ⟨isUs_drew (h.each r hr).1, (h.each r hr).2⟩⟩
theorem wpList_appU0n {ops : Array Oper} {rest : List Oper} {o : Oper} {a : Act} {Q : Exit → Act → World → Prop} {w : World} (hgd : o.guard = none) (s x : Operand)
    (ho : o.op = .call { callee := .builtin .append, args := #[s, x], argTypes := #[22, 22] })
    (H : Nat) (hH : w.heap.size = H) (hs : a.eval s = .slice (some ⟨H, 0, none⟩) 0 0) (ax : Option Addr) (len cx : Nat) (hx : a.eval x = .slice ax len cx) (us : List Up) (hu : IsUs w ax len us) (hc : len ≤ cx) (hn : ax = none → cx = 0) (hb : len ≤ 1000000)
    (h : ∀ a' c' w', RowU w.heap.size w' (.slice a' len c') us → Below w.heap.size w w' → wpList Try.prog ops Q rest (a.put o.dst (.slice a' len c')) w') :
    wpList Try.prog ops Q (o :: rest) a (w.alloc (.cells #[] 42)) := by
  subst hH
  exact wpList_appU0 hgd s x ho hs ax len cx hx us hu hc hn hb h
theorem size_alloc (w : World) (o : Obj) : (w.alloc o).heap.size = w.heap.size + 1 := by simp
theorem rb_lt {w : World} {b i : Nat} {v : Value} (h : w.cell? ⟨b, i, none⟩ = some v) : b < w.heap.size := block_lt_of_cell h
/-- How it stands within ReplayEchoes: the copies. -/
structure Ec (w wr : World) (v7 : Value) (by_ nb : Int) (rs os : List Rn) : Prop where
  row : RowR w.heap.size wr v7 os
  each : ∀ r ∈ os, RowU w.heap.size wr (.slice r.a r.len r.cap) r.us ∧ r.len = r.us.length
  same : os.map (fun r => (r.o, r.n, r.us)) = rs.map (fun r => (by_, nb, r.us))
  bel : Below w.heap.size w wr
theorem ec_start {w wr : World} {by_ nb : Int} (h : Below w.heap.size w wr) : Ec w wr (.slice none 0 0) by_ nb [] [] := ⟨rowR_nil _ _, fun r hr => (by cases hr), rfl, h⟩
theorem Ec.next {w wr w1 : World} {v7 : Value} {by_ nb : Int} {rs os : List Rn} (h : Ec w wr v7 by_ nb rs os) (hb : Below wr.heap.size wr w1) : Ec w w1 v7 by_ nb rs os :=
  ⟨h.row.below hb, fun r hr => ⟨(h.each r hr).1.below hb, (h.each r hr).2⟩, h.same, Below.next h.bel hb⟩
theorem Ec.app {w wr w3 w5 : World} {v7 v' : Value} {by_ nb : Int} {rs os : List Rn} {r : Rn} {o1 o2 : Obj} {a3 : Option Addr} {c3 B : Nat} (h : Ec w wr v7 by_ nb rs os) (hB : w.heap.size ≤ B) (hb : Below wr.heap.size wr w3) (hr3 : RowU B w3 (.slice a3 r.len c3) r.us) (hrl : r.us.length = r.len)
    (hr : RowR w.heap.size w5 v' (os ++ [⟨by_, nb, a3, r.len, c3, r.us⟩])) (hg : ((w3.alloc o1).alloc o2).grownBy w5 v7.ownBlock) : Ec w w5 v' by_ nb (rs ++ [r]) (os ++ [⟨by_, nb, a3, r.len, c3, r.us⟩]) := by
  have h3 := ((h.next hb).next (Joins.below_alloc1 w3 o1)).next (Joins.below_alloc1 _ o2)
  refine ⟨hr, fun x hx => ?_, by rw [List.map_append, List.map_append, h.same]; rfl, belR h3.row h3.bel hg h3.bel.size⟩
  rcases List.mem_append.1 hx with hx | hx
  · have he := h3.each x hx
    exact ⟨he.1.kept hg (he.1.neR h3.row), he.2⟩
  · obtain rfl := List.mem_singleton.1 hx
    have hr4 := ((hr3.alloc o1).alloc o2).lower hB
    exact ⟨hr4.kept hg (hr4.neR h3.row), hrl.symm⟩
theorem Ec.is {w wr : World} {a7 : Option Addr} {n c7 : Nat} {by_ nb : Int} {rs os : List Rn} (h : Ec w wr (.slice a7 n c7) by_ nb rs os) (hn : os.length = n) : IsRs wr a7 n os :=
  (h.row.isR hn.symm (fun r hr => by
    have he := h.each r hr
    have hi := he.1.isU he.2
    exact ⟨hi.1, hi.2⟩)).1
theorem flat_of (os : List Rn) : flatR os = (os.map (fun r => (r.o, r.n, r.us))).flatMap (·.2.2) := by
  induction os with
  | nil => rfl
  | cons r os ih =>
    have e : flatR (r :: os) = r.us ++ flatR os := rfl
    rw [e, ih]; rfl
theorem flat_by (by_ nb : Int) (rs : List Rn) : (rs.map (fun r => (by_, nb, r.us))).flatMap (·.2.2) = flatR rs := by
  induction rs with
  | nil => rfl
  | cons r rs ih =>
    have e : flatR (r :: rs) = r.us ++ flatR rs := rfl
    rw [e, ← ih]; rfl
theorem Ec.flat {w wr : World} {v7 : Value} {by_ nb : Int} {rs os : List Rn} (h : Ec w wr v7 by_ nb rs os) : flatR os = flatR rs := by rw [flat_of, h.same, flat_by]
theorem Ec.at {w wr : World} {v7 : Value} {by_ nb : Int} {rs os : List Rn} (h : Ec w wr v7 by_ nb rs os) {k : Nat} (hk : k < rs.length) : (os.getD k rn0).o = by_ ∧ (os.getD k rn0).n = nb ∧ (os.getD k rn0).us = (rs.getD k rn0).us := by
  have hl : os.length = rs.length := by have := congrArg List.length h.same; simpa using this
  have e := congrArg (fun l => l[k]?) h.same
  simp only [List.getElem?_map] at e
  have e1 : os[k]? = some (os.getD k rn0) := by simp [List.getD_eq_getElem?_getD, show k < os.length by omega]
  have e2 : rs[k]? = some (rs.getD k rn0) := by simp [List.getD_eq_getElem?_getD, hk]
  rw [e1, e2] at e
  simpa using e
theorem ex_new {w wr : World} {v7 : Value} {by_ nb : Int} {rs os : List Rn} {X : Nat} {v : Vl} {o : Obj} (h : Ec w wr v7 by_ nb rs os) (hv : Vb wr X v) : Ec w (wr.alloc o) v7 by_ nb rs os ∧ Vb (wr.alloc o) X v := ⟨h.next (Joins.below_alloc1 _ _), hv.alloc _⟩
theorem ex_next {w W W' w1 : World} {v7 : Value} {by_ nb : Int} {rs os : List Rn} {X : Nat} {v : Vl} (h : Ec w W v7 by_ nb rs os ∧ Vb W X v) (hb : Below W'.heap.size W' w1) (e1 : W'.os = W.os) (e2 : W'.tape = W.tape) (e3 : W'.output = W.output) (e4 : W'.heap = W.heap) : Ec w w1 v7 by_ nb rs os ∧ Vb w1 X v := by
  have hb' : Below W.heap.size W w1 := ⟨hb.os.trans e1, hb.tape.trans e2, hb.output.trans e3, by rw [← e4]; exact hb.size, fun k hk => by rw [hb.block k (by rw [e4]; exact hk), e4]⟩
  exact ⟨h.1.next hb', h.2.kept hb' rfl⟩
set_option maxHeartbeats 8000000 in
theorem walkEchoes (key : ByteArray) (ar : Option Addr) (lr cr : Nat) (rs : List Rn) (by_ : Int) (w : World) (hr : IsRs w ar lr rs) :
    Calls Try.prog 7 #[.string key, .slice ar lr cr, .int .i64 by_] w fun e w' => e = .returned (.bool true) ∧ Below w.heap.size w w' := by
  have hu := isUs_nil w
  by_cases hg : g8 [] rs
  · have HG := fun w hu hr => Lib.hid (great8_yes none 0 0 [] ar lr cr rs hg w hu hr)
    have HU := Lib.hid hu
    have HR := Lib.hid hr
    clear hg hu hr 
    go_enter Try.func7, Try.ntmps7
    go_wp2_with fail
    refine (awake_yes _).mono ?_
    rintro e w1 ⟨rfl, hb⟩
    have HB1 := Lib.hid hb
    clear hb
    go_wp2_with fail
    refine (HG _ (isUs_below HU.out HB1.out) (isRs_below HR.out HB1.out)).out.mono ?_
    rintro e w2 ⟨rfl, hb⟩
    have HB2 := Lib.hid (Below.next HB1.out hb)
    clear hb HB1 HG
    go_wp2_with fail
    refine (awake_yes _).mono ?_
    rintro e w3 ⟨rfl, hb⟩
    have HB3 := Lib.hid (Below.next HB2.out hb)
    clear hb HB2
    go_wp2
    go_ret
    exact ⟨rfl, HB3.out⟩
  have HG := fun w hu hr => Lib.hid (great8_no none 0 0 [] ar lr cr rs hg w hu hr)
  have hp := g8_pl hg
  have hrl := (g8_rs hg).1
  have HU := Lib.hid hu
  have HR := Lib.hid hr
  rw [hr.size] at hrl
  by_cases hk : 100 < key.size
  · have q : decide ((100 : Int) < (key.size : Int)) = true := decide_eq_true (by omega)
    clear hg hu hr hp hk 
    go_enter Try.func7, Try.ntmps7
    go_wp2_with fail
    refine (awake_yes _).mono ?_
    rintro e w1 ⟨rfl, hb⟩
    have HB1 := Lib.hid hb
    clear hb
    go_wp2_with fail
    refine (HG _ (isUs_below HU.out HB1.out) (isRs_below HR.out HB1.out)).out.mono ?_
    rintro e w2 ⟨rfl, hb⟩
    have HB2 := Lib.hid (Below.next HB1.out hb)
    clear hb HB1 HG
    go_wp2_with fail
    refine (awake_yes _).mono ?_
    rintro e w3 ⟨rfl, hb⟩
    have HB3 := Lib.hid (Below.next HB2.out hb)
    clear hb HB2
    go_wp2
    go_ret
    exact ⟨rfl, HB3.out⟩
  have q : decide ((100 : Int) < (key.size : Int)) = false := decide_eq_false (by omega)
  have hk1 : key.size ≤ 1000 := by omega
  clear hk
  have HRD := fun w hr => Lib.hid (read_any key none 0 0 [] ar lr cr rs hp w (isUs_nil w) hr)
  have HP := Lib.hid hp
  rw [List.append_nil] at HRD
  obtain ⟨⟨rk, rn, rt⟩, HEQ⟩ : ∃ r, Hid (stF (flatR rs) (ky key) = r) := ⟨_, Lib.hid rfl⟩
  rw [HEQ.out] at HRD
  simp only [vv_eq] at HRD
  clear hp
  obtain ⟨nb, hnb⟩ : ∃ nb, IntKind.i64.wrap (-by_) = nb := ⟨_, rfl⟩
  clear hg hu hr
  go_enter Try.func7, Try.ntmps7
  go_wp2_with fail
  refine (awake_yes _).mono ?_
  rintro e w1 ⟨rfl, hb⟩
  have HB1 := Lib.hid hb
  clear hb
  go_wp2_with fail
  refine (HG _ (isUs_below HU.out HB1.out) (isRs_below HR.out HB1.out)).out.mono ?_
  rintro e w2 ⟨rfl, hb⟩
  have HB2 := Lib.hid (Below.next HB1.out hb)
  clear hb HB1 HG
  clear HU
  go_wp2_with fail
  go_loopw [7, 28] (fun v7 v28 wr => ∃ (k : Nat) (os : List Rn), k ≤ lr ∧ v28 = .int .i64 k ∧ os.length = k ∧ Ec w wr v7 by_ nb (rs.take k) os) (fun _ v28 _ => lr - (intOf v28).toNat)
  case atStart => exact ⟨0, [], Nat.zero_le _, rfl, rfl, ec_start HB2.out⟩
  case round =>
    obtain ⟨k, os, hk, rfl, hol, hec⟩ := hrel
    have hsz := HR.out.size
    clear HB2
    by_cases hlt : k < lr
    · obtain ⟨b, off, rfl, c0, c1, c2, hru⟩ := rcells_of HR.out hec.bel hlt
      have hat := (HP.out.at (k := k) (by omega)).2
      have hrl := hru.1.size
      have HSN := Lib.hid (take_snoc rs k (by omega))
      have HRU := Lib.hid hru
      have HEC := Lib.hid hec
      have hws := hec.bel.size
      clear hec hru hsz HRD HEQ HP
      generalize rs.getD k rn0 = rr at *
      obtain ⟨ro, rnn, ra, rl, rc, ru⟩ := rr
      simp only at c0 c1 c2 hat hrl
      go_wp2_with (first
        | (at_builtin; refine wpList_appU0n rfl _ _ rfl (wr.heap.size + 1) (by simp) rfl ra rl rc rfl ru (isUs_below HRU.out.1 (HEC.out.bel.alloc HEC.out.bel.size _)) HRU.out.2.1 HRU.out.2.2 (by omega) ?_; intro a3 c3 w3 hr3 hb3; have HR3 := Lib.hid hr3; have HBX := Lib.hid (Below.next (Joins.below_alloc1 wr _) hb3); have hw3 := HBX.out.size; clear hr3 hb3)
        | (at_builtin; refine wpList_appR rfl _ _ rfl w.heap.size _ os rfl ((HEC.out.next HBX.out).row.alloc _ |>.alloc _) (some ⟨w3.heap.size + 1, 0, none⟩) 1 1 rfl [⟨by_, nb, a3, rl, c3, ru⟩] (rsAt_new (w3.alloc (.cells #[.int .i64 by_, .int .i64 nb, .slice a3 rl c3] 45)) ⟨by_, nb, a3, rl, c3, ru⟩ (size_alloc w3 _)) (Nat.le_refl _) (fun e => by cases e) (by omega) (Nat.le_trans (Nat.le_trans (Nat.le_trans hws hw3) (Joins.below_alloc1 w3 _).size) (Joins.below_alloc1 _ _).size) ?_; intro a5 c5 w5 hr5 hg5 _; have HE5 := Lib.hid (HEC.out.app (r := ⟨ro, rnn, ra, rl, rc, ru⟩) (Nat.le_trans hws (Joins.below_alloc1 wr _).size) HBX.out HR3.out hrl hr5 hg5); clear hr5 hg5; go_frame)
        | go_in)
      go_roundw
      case rel => exact ⟨k + 1, os ++ [⟨by_, nb, a3, rl, c3, ru⟩], by omega, by go_num, by rw [List.length_append, hol]; rfl, by rw [HSN.out]; exact HE5.out⟩
      case measure => simp [intOf]; omega
    · obtain rfl : k = lr := by omega
      rw [takeR_all hsz] at hec
      have hflat := hec.flat
      obtain ⟨ts, hts⟩ := touL_ex (flatR os)
      have hpo : Pl [] os := by
        have h1 := HP.out.len
        have h2 := HP.out.sh
        rw [← hflat] at h1 h2
        exact ⟨h2, h1, by omega⟩
      obtain ⟨a7, c7, e7, _⟩ := hec.row.is
      rw [hol] at e7
      subst e7
      have HRO := fun w hr => Lib.hid (read_any key none 0 0 [] a7 k c7 os hpo w (isUs_nil w) hr)
      have HTO := fun w hr => Lib.hid (touched_any a7 k c7 os hpo ts hts w hr)
      rw [List.append_nil, hflat, HEQ.out] at HRO
      simp only [vv_eq] at HRO
      have HEC := Lib.hid hec
      clear hec hflat hpo hts HEQ
      go_wp2_with fail
      refine (HRO _ (HEC.out.is hol)).out.mono ?_
      rintro e w5 ⟨rfl, hb⟩
      have HE5 := Lib.hid (HEC.out.next hb)
      clear hb HEC HRO
      go_wp2_with fail
      refine (HTO _ ((HE5.out.next (Joins.below_alloc1 _ _)).is hol)).out.mono ?_
      rintro e w6 ⟨a6, c6, rfl, _, hb⟩
      have HE6 := Lib.hid ((HE5.out.next (Joins.below_alloc1 _ _)).next hb)
      have HV6 := Lib.hid (Vb.kept (v := (rk, rn, rt)) (new_at (W := w5) rfl) hb rfl)
      clear hb HE5 HTO
      go_wp2_with fail
      go_loopw [52] (fun v52 wr => ∃ j : Nat, j ≤ k ∧ v52 = .int .i64 j ∧ Ec w wr (.slice a7 k c7) by_ nb rs os ∧ Vb wr w5.heap.size (rk, rn, rt)) (fun v52 _ => k - (intOf v52).toNat)
      case atStart => exact ⟨0, Nat.zero_le _, rfl, HE6.out, HV6.out⟩
      case round =>
        obtain ⟨j, hj, rfl, hec, hvb⟩ := hrel
        clear HE6 HV6
        by_cases hjl : j < k
        · obtain ⟨b, off, ea, c0, c1, c2, hru⟩ := rcells_of HR.out hec.bel hjl
          obtain ⟨b2, off2, e7, p0, p1, p2, hou⟩ := rcells_of (hec.is hol) (Below.refl _ _) hjl
          obtain ⟨i0, i1, i2⟩ := hec.at (k := j) (by omega)
          subst ea e7
          have hat := (HP.out.at (k := j) (by omega)).2
          have hrl := hru.1.size
          have hol2 := hou.1.size
          have HEX := fun o => Lib.hid (ex_new (o := o) hec hvb)
          have HRU := Lib.hid hru.1
          clear hec hvb HRD
          generalize rs.getD j rn0 = rr at *
          generalize os.getD j rn0 = oo at *
          obtain ⟨ro, rnn, ra, rl, rc, ru⟩ := rr
          obtain ⟨oo, onn, oa, ol, oc, ou⟩ := oo
          simp only at c0 c1 c2 p0 p1 p2 i0 i1 i2 hat hrl hol2 HRU
          subst i0 i1 i2
          obtain rfl : ol = rl := by omega
          have HSM := fun w h1 h2 => Lib.hid (ds_yes oo onn oa ra ol oc rc ou (by omega) w h1 h2)
          have HOU := Lib.hid hou.1
          have hbw := (rb_lt p0)
          clear hou
          have z0 : (0 : Int) ≤ (j : Int) := by omega
          have z1 : (j : Int) < (k : Int) := by omega
          have HE := HEX (.cells #[.int .i64 ro, .int .i64 rnn, .slice ra ol rc] 45)
          clear HEX
          have hrb := Rb.new wr ro rnn ra ol rc
          have g2 := hrb.c2
          have x0 := (World.cell?_alloc_past (w := wr) (.cells #[.int .i64 ro, .int .i64 rnn, .slice ra ol rc] 45) b2 (off2 + j * 3) hbw).trans p0
          have x1 := (World.cell?_alloc_past (w := wr) (.cells #[.int .i64 ro, .int .i64 rnn, .slice ra ol rc] 45) b2 (off2 + j * 3 + 1) hbw).trans p1
          have x2 := (World.cell?_alloc_past (w := wr) (.cells #[.int .i64 ro, .int .i64 rnn, .slice ra ol rc] 45) b2 (off2 + j * 3 + 2) hbw).trans p2
          have HRB := Lib.hid hrb
          clear hrb
          go_wp2_with fail
          go_region_held3 (fun w' => w'.cell? ⟨b2, off2 + j * 3, none⟩ = some (.int .i64 oo) ∧ w'.cell? ⟨b2, off2 + j * 3 + 1, none⟩ = some (.int .i64 onn) ∧ w'.cell? ⟨b2, off2 + j * 3 + 2, none⟩ = some (.slice oa ol oc) ∧ w'.cell? ⟨wr.heap.size, 2, none⟩ = some (.slice ra ol rc))
            (first | with_reducible assumption | exact ⟨x0, x1, x2, g2⟩)
            (first
              | (go_at_call 22
                 refine (HSM _ ?_ ?_).out.mono ?_
                 · exact isUs_drew (isUs_below HOU.out (Joins.below_alloc1 _ _))
                 · exact isUs_drew (isUs_below HRU.out HE.out.1.bel)
                 rintro e w8 ⟨rfl, hb⟩
                 have HE8 := Lib.hid (ex_next HE.out hb rfl rfl rfl rfl)
                 have x0 := (hb.cell (show b2 < _ by show b2 < (wr.alloc _).heap.size; simp; omega)).trans x0
                 have x1 := (hb.cell (show b2 < _ by show b2 < (wr.alloc _).heap.size; simp; omega)).trans x1
                 have x2 := (hb.cell (show b2 < _ by show b2 < (wr.alloc _).heap.size; simp; omega)).trans x2
                 have g2 := (hb.cell (show wr.heap.size < _ by show wr.heap.size < (wr.alloc _).heap.size; simp)).trans g2
                 clear hb))
          go_wp2
          go_roundw
          case rel => exact ⟨j + 1, by omega, by go_num, HE8.out.1, HE8.out.2⟩
          case measure => simp [intOf]; omega
        · obtain rfl : j = k := by omega
          obtain ⟨v0, v1, v2⟩ := Vb.c hvb
          have HEV := Lib.hid (And.intro hec hvb)
          clear hec hvb
          go_wp2_with fail
          go_region_held3 (fun w' => w'.cell? ⟨w5.heap.size, 0, none⟩ = some (.int .i64 rk) ∧ w'.cell? ⟨w5.heap.size, 1, none⟩ = some (.int .i64 rn) ∧ w'.cell? ⟨w5.heap.size, 2, none⟩ = some (.string rt))
            (first | with_reducible assumption | exact ⟨v0, v1, v2⟩)
            (first
              | (go_at_call 11
                 refine (HRD _ ?_).out.mono ?_
                 · exact isRs_drew (isRs_below HR.out HEV.out.1.bel)
                 rintro e w8 ⟨rfl, hb⟩
                 have HE8 := Lib.hid (ex_next HEV.out hb rfl rfl rfl rfl)
                 obtain ⟨v0, v1, v2⟩ := Vb.c HE8.out.2
                 clear hb))
          go_wp2
          go_ret
          exact ⟨rfl, HE8.out.1.bel⟩
end Go.Proofs.Yteonmljchcekpaa

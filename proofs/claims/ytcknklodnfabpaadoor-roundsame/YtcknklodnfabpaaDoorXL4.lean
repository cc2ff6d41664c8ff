/- The walk of RoundSame. -/
import Derived.Test.YtcknklodnfabpaaDoorXL1
import Derived.Test.YtcknklodnfabpaaDoorXAP
namespace Go.Proofs.YtcknklodnfabpaaDoor
open Go Go.RowKit
/-- Within RoundSame: the two rounds that came. -/
structure LT (w wr : World) (o1 n1 : Int) (a1 : Option Addr) (l1 cap1 : Nat) (o2 n2 : Int) (a2 : Option Addr) (l2 cap2 : Nat) : Prop where
  d : Wd wr
  r1 : Rb wr w.heap.size o1 n1 a1 l1 cap1
  r2 : Rb wr (w.heap.size + 1) o2 n2 a2 l2 cap2
  bel : Below w.heap.size w wr
/-- .. and the copy, with its row. -/
structure LC (w wr : World) (o1 n1 : Int) (a1 : Option Addr) (l1 cap1 : Nat) (o2 n2 : Int) (a2 : Option Addr) (l2 cap2 : Nat) (pc g : Nat) (l : List Up) : Prop where
  t : LT w wr o1 n1 a1 l1 cap1 o2 n2 a2 l2 cap2
  rc : Rb wr pc o1 n1 (some ⟨g, 0, none⟩) l1 l1
  rw : Rw wr g l
  lo : w.heap.size + 1 < g
  hi : g < pc
section
variable {w wr w' : World} {o1 n1 : Int} {a1 : Option Addr} {l1 cap1 : Nat} {o2 n2 : Int} {a2 : Option Addr} {l2 cap2 : Nat} {pc g : Nat} {l : List Up}
theorem LT.start (hd : Wd w) (o1 n1 : Int) (a1 : Option Addr) (l1 cap1 : Nat) (o2 n2 : Int) (a2 : Option Addr) (l2 cap2 : Nat) : LT w ((w.alloc (.cells #[.int .i64 o1, .int .i64 n1, .slice a1 l1 cap1] 24)).alloc (.cells #[.int .i64 o2, .int .i64 n2, .slice a2 l2 cap2] 24)) o1 n1 a1 l1 cap1 o2 n2 a2 l2 cap2 :=
  have h := two_rounds w o1 n1 a1 l1 cap1 o2 n2 a2 l2 cap2
  ⟨(hd.alloc _).alloc _, h.1, h.2, Joins.below_alloc2 w _ _⟩
theorem LT.next (h : LT w wr o1 n1 a1 l1 cap1 o2 n2 a2 l2 cap2) (hb : Below wr.heap.size wr w') : LT w w' o1 n1 a1 l1 cap1 o2 n2 a2 l2 cap2 := ⟨h.d.below hb, h.r1.next hb, h.r2.next hb, Below.next h.bel hb⟩
theorem LC.next (h : LC w wr o1 n1 a1 l1 cap1 o2 n2 a2 l2 cap2 pc g l) (hb : Below wr.heap.size wr w') : LC w w' o1 n1 a1 l1 cap1 o2 n2 a2 l2 cap2 pc g l := ⟨h.t.next hb, h.rc.next hb, h.rw.next hb, h.lo, h.hi⟩
theorem LC.drew (h : LC w wr o1 n1 a1 l1 cap1 o2 n2 a2 l2 cap2 pc g l) : LC w wr.drew o1 n1 a1 l1 cap1 o2 n2 a2 l2 cap2 pc g l := ⟨⟨⟨h.t.d.c0, h.t.d.c1, h.t.d.c2, h.t.d.c3, h.t.d.pos⟩, h.t.r1, h.t.r2, h.t.bel.drew⟩, h.rc, h.rw, h.lo, h.hi⟩
theorem LC.set (h : LC w wr o1 n1 a1 l1 cap1 o2 n2 a2 l2 cap2 pc g l) (k : Nat) (hk : k < l.length) (u : Up) :
    LC w ((((wr.setCell ⟨g, k * 4, none⟩ (.string u.1)).setCell ⟨g, k * 4 + 1, none⟩ (.int .i64 u.2.1)).setCell ⟨g, k * 4 + 2, none⟩ (.int .i64 u.2.2.1)).setCell ⟨g, k * 4 + 3, none⟩ (.string u.2.2.2)) o1 n1 a1 l1 cap1 o2 n2 a2 l2 cap2 pc g (l.set k u) :=
  have h1 := h.lo
  have h2 := h.hi
  have e1 : w.heap.size ≠ g := by omega
  have e2 : w.heap.size + 1 ≠ g := by omega
  have e3 : pc ≠ g := by omega
  have e4 : 0 < g := by omega
  ⟨⟨(((h.t.d.setnew e4 _ _).setnew e4 _ _).setnew e4 _ _).setnew e4 _ _, (((h.t.r1.setnew e1 _ _).setnew e1 _ _).setnew e1 _ _).setnew e1 _ _, (((h.t.r2.setnew e2 _ _).setnew e2 _ _).setnew e2 _ _).setnew e2 _ _,
    (((h.t.bel.setCell (by show w.heap.size ≤ g; omega) _).setCell (by show w.heap.size ≤ g; omega) _).setCell (by show w.heap.size ≤ g; omega) _).setCell (by show w.heap.size ≤ g; omega) _⟩,
    (((h.rc.setnew e3 _ _).setnew e3 _ _).setnew e3 _ _).setnew e3 _ _, h.rw.set4 k hk u, h.lo, h.hi⟩
end
set_option maxHeartbeats 16000000 in
theorem walkSame (o1 n1 : Int) (a1 : Option Addr) (l1 cap1 : Nat) (us : List Up) (o2 n2 : Int) (a2 : Option Addr) (l2 cap2 : Nat) (vs : List Up) (w : World) (hd : Wd w) (hu : IsUs w a1 l1 us) (hv : IsUs w a2 l2 vs) (hcap : l1 ≤ cap1) (hno : a1 = none → cap1 = 0) : Calls Tryd.prog 8 #[.agg #[.int .i64 o1, .int .i64 n1, .slice a1 l1 cap1], .agg #[.int .i64 o2, .int .i64 n2, .slice a2 l2 cap2]] w fun e w' => e = .returned (.bool true) ∧ Below w.heap.size w w' := by
  have hs := LT.start hd o1 n1 a1 l1 cap1 o2 n2 a2 l2 cap2
  have p0 := hs.r1.c0
  have p1 := hs.r1.c1
  have p2 := hs.r1.c2
  have s0 := hs.r2.c0
  have s1 := hs.r2.c1
  have s2 := hs.r2.c2
  have hsz := hu.size
  have hsv := hv.size
  have HU := Lib.hid hu
  have HV := Lib.hid hv
  have H0 := Lib.hid hs
  clear hs hd hu hv
  by_cases hg : gR us
  · have HG := fun w h => Lib.hid (greatR_yes o1 n1 a1 l1 cap1 us hg w h)
    clear hg
    go_enter Tryd.func8, Tryd.ntmps8
    go_wp2_with fail
    refine (awake_yes _ H0.out.d).mono ?_
    rintro e1 w1 ⟨rfl, hb⟩
    have hs := H0.out.next hb
    have p0 := hs.r1.c0
    have p1 := hs.r1.c1
    have p2 := hs.r1.c2
    have s0 := hs.r2.c0
    have s1 := hs.r2.c1
    have s2 := hs.r2.c2
    have H1 := Lib.hid hs
    clear hb hs H0 
    go_wp2_with fail
    refine ((HG _ (isUs_below HU.out H1.out.bel)).out).mono ?_
    rintro e2 w2 ⟨rfl, hb⟩
    have hs := H1.out.next hb
    have p0 := hs.r1.c0
    have p1 := hs.r1.c1
    have p2 := hs.r1.c2
    have s0 := hs.r2.c0
    have s1 := hs.r2.c1
    have s2 := hs.r2.c2
    have H2 := Lib.hid hs
    clear hb hs H1 HG
    go_wp2_with fail
    refine (awake_yes _ H2.out.d).mono ?_
    rintro e3 w3 ⟨rfl, hb⟩
    have hs := H2.out.next hb
    have p0 := hs.r1.c0
    have p1 := hs.r1.c1
    have p2 := hs.r1.c2
    have s0 := hs.r2.c0
    have s1 := hs.r2.c1
    have s2 := hs.r2.c2
    have H3 := Lib.hid hs
    clear hb hs H2 
    go_wp2
    go_ret
    exact ⟨rfl, H3.out.bel⟩
  have HG := fun w h => Lib.hid (greatR_no o1 n1 a1 l1 cap1 us hg w h)
  by_cases hg2 : gR vs
  · have HG2 := fun w h => Lib.hid (greatR_yes o2 n2 a2 l2 cap2 vs hg2 w h)
    clear hg hg2
    go_enter Tryd.func8, Tryd.ntmps8
    go_wp2_with fail
    refine (awake_yes _ H0.out.d).mono ?_
    rintro e1 w1 ⟨rfl, hb⟩
    have hs := H0.out.next hb
    have p0 := hs.r1.c0
    have p1 := hs.r1.c1
    have p2 := hs.r1.c2
    have s0 := hs.r2.c0
    have s1 := hs.r2.c1
    have s2 := hs.r2.c2
    have H1 := Lib.hid hs
    clear hb hs H0 
    go_wp2_with fail
    refine ((HG _ (isUs_below HU.out H1.out.bel)).out).mono ?_
    rintro e2 w2 ⟨rfl, hb⟩
    have hs := H1.out.next hb
    have p0 := hs.r1.c0
    have p1 := hs.r1.c1
    have p2 := hs.r1.c2
    have s0 := hs.r2.c0
    have s1 := hs.r2.c1
    have s2 := hs.r2.c2
    have H2 := Lib.hid hs
    clear hb hs H1 HG
    go_wp2_with fail
    refine ((HG2 _ (isUs_below HV.out H2.out.bel)).out).mono ?_
    rintro e3 w3 ⟨rfl, hb⟩
    have hs := H2.out.next hb
    have p0 := hs.r1.c0
    have p1 := hs.r1.c1
    have p2 := hs.r1.c2
    have s0 := hs.r2.c0
    have s1 := hs.r2.c1
    have s2 := hs.r2.c2
    have H3 := Lib.hid hs
    clear hb hs H2 HG2
    go_wp2_with fail
    refine (awake_yes _ H3.out.d).mono ?_
    rintro e4 w4 ⟨rfl, hb⟩
    have hs := H3.out.next hb
    have p0 := hs.r1.c0
    have p1 := hs.r1.c1
    have p2 := hs.r1.c2
    have s0 := hs.r2.c0
    have s1 := hs.r2.c1
    have s2 := hs.r2.c2
    have H4 := Lib.hid hs
    clear hb hs H3 
    go_wp2
    go_ret
    exact ⟨rfl, H4.out.bel⟩
  have HG2 := fun w h => Lib.hid (greatR_no o2 n2 a2 l2 cap2 vs hg2 w h)
  have hl20 := gR_len hg
  have HCP := fun w h => Lib.hid (rndcopy_any o1 n1 a1 l1 cap1 us (by omega) (fun i hi => gR_sz hg i (by omega)) w h)
  have HA : Hid (∀ W pc g, LC w W o1 n1 a1 l1 cap1 o2 n2 a2 l2 cap2 pc g us → Calls Tryd.prog 23 #[.agg #[.int .i64 o1, .int .i64 n1, .slice a1 l1 cap1], .agg #[.int .i64 o2, .int .i64 n2, .slice a2 l2 cap2]] W fun e w' => e = .returned (.bool (decide (o1 = o2 ∧ n1 = n2 ∧ us = vs))) ∧ Below W.heap.size W w') := fun W pc g h => rndsame_any o1 n1 a1 l1 cap1 o2 n2 a2 l2 cap2 us vs (by omega) W (isUs_below HU.out h.t.bel) (isUs_below HV.out h.t.bel)
  have HB : Hid (∀ W pc g, LC w W o1 n1 a1 l1 cap1 o2 n2 a2 l2 cap2 pc g us → Calls Tryd.prog 18 #[.agg #[.int .i64 o1, .int .i64 n1, .slice a1 l1 cap1], .agg #[.int .i64 o2, .int .i64 n2, .slice a2 l2 cap2]] W fun e w' => e = .returned (.bool (decide (o1 = o2 ∧ n1 = n2 ∧ us = vs))) ∧ Below W.heap.size W w') := fun W pc g h => docsame_any o1 n1 a1 l1 cap1 o2 n2 a2 l2 cap2 us vs (by omega) W (isUs_below HU.out h.t.bel) (isUs_below HV.out h.t.bel)
  have HC : Hid (∀ W pc g, LC w W o1 n1 a1 l1 cap1 o2 n2 a2 l2 cap2 pc g us → Calls Tryd.prog 18 #[.agg #[.int .i64 o1, .int .i64 n1, .slice (some ⟨g, 0, none⟩) l1 l1], .agg #[.int .i64 o1, .int .i64 n1, .slice a1 l1 cap1]] W fun e w' => e = .returned (.bool true) ∧ Below W.heap.size W w') := by
    intro W pc g h
    have hr := h.rw.is
    rw [hsz] at hr
    have := docsame_any o1 n1 (some ⟨g, 0, none⟩) l1 l1 o1 n1 a1 l1 cap1 us us (by omega) W hr (isUs_below HU.out h.t.bel)
    rw [decide_eq_true (show o1 = o1 ∧ n1 = n1 ∧ us = us from ⟨rfl, rfl, rfl⟩)] at this
    exact this
  generalize decide (o1 = o2 ∧ n1 = n2 ∧ us = vs) = bb at *
  have qb : (bb == bb) = true := by simp
  clear hg hg2
  go_enter Tryd.func8, Tryd.ntmps8
  go_wp2_with fail
  refine (awake_yes _ H0.out.d).mono ?_
  rintro e1 w1 ⟨rfl, hb⟩
  have hs := H0.out.next hb
  have p0 := hs.r1.c0
  have p1 := hs.r1.c1
  have p2 := hs.r1.c2
  have s0 := hs.r2.c0
  have s1 := hs.r2.c1
  have s2 := hs.r2.c2
  have H1 := Lib.hid hs
  clear hb hs H0 
  go_wp2_with fail
  refine ((HG _ (isUs_below HU.out H1.out.bel)).out).mono ?_
  rintro e2 w2 ⟨rfl, hb⟩
  have hs := H1.out.next hb
  have p0 := hs.r1.c0
  have p1 := hs.r1.c1
  have p2 := hs.r1.c2
  have s0 := hs.r2.c0
  have s1 := hs.r2.c1
  have s2 := hs.r2.c2
  have H2 := Lib.hid hs
  clear hb hs H1 HG
  go_wp2_with fail
  refine ((HG2 _ (isUs_below HV.out H2.out.bel)).out).mono ?_
  rintro e3 w3 ⟨rfl, hb⟩
  have hs := H2.out.next hb
  have p0 := hs.r1.c0
  have p1 := hs.r1.c1
  have p2 := hs.r1.c2
  have s0 := hs.r2.c0
  have s1 := hs.r2.c1
  have s2 := hs.r2.c2
  have H3 := Lib.hid hs
  clear hb hs H2 HG2
  go_wp2_with fail
  refine (HCP _ (isUs_below HU.out H3.out.bel)).out.mono ?_
  rintro e4 w4 ⟨rfl, hrw, hb⟩
  have hbA := Joins.below_alloc1 w4 (.cells #[.int .i64 o1, .int .i64 n1, .slice (some ⟨w3.heap.size + 2, 0, none⟩) l1 l1] 24)
  have hlc : LC w (w4.alloc (.cells #[.int .i64 o1, .int .i64 n1, .slice (some ⟨w3.heap.size + 2, 0, none⟩) l1 l1] 24)) o1 n1 a1 l1 cap1 o2 n2 a2 l2 cap2 w4.heap.size (w3.heap.size + 2) us := ⟨(H3.out.next hb).next hbA, Rb.new w4 _ _ _ _ _, hrw.next hbA, by have := H3.out.r2.lt; omega, hrw.lt⟩
  have HL := Lib.hid hlc.drew
  clear hb hrw hbA hlc H3 HCP p0 p1 p2 s0 s1 s2
  go_wp2_with fail
  generalize w4.heap.size = pc at *
  generalize w3.heap.size + 2 = g at *
  have p0 := HL.out.t.r1.c0
  have p1 := HL.out.t.r1.c1
  have p2 := HL.out.t.r1.c2
  have s0 := HL.out.t.r2.c0
  have s1 := HL.out.t.r2.c1
  have s2 := HL.out.t.r2.c2
  have t0 := HL.out.rc.c0
  have t1 := HL.out.rc.c1
  have t2 := HL.out.rc.c2
  go_region_held3 (fun w' => w'.cell? ⟨w.heap.size, 0, none⟩ = some (.int .i64 o1) ∧ w'.cell? ⟨w.heap.size, 1, none⟩ = some (.int .i64 n1) ∧ w'.cell? ⟨w.heap.size, 2, none⟩ = some (.slice a1 l1 cap1) ∧ w'.cell? ⟨w.heap.size + 1, 0, none⟩ = some (.int .i64 o2) ∧ w'.cell? ⟨w.heap.size + 1, 1, none⟩ = some (.int .i64 n2) ∧ w'.cell? ⟨w.heap.size + 1, 2, none⟩ = some (.slice a2 l2 cap2) ∧ w'.cell? ⟨pc, 0, none⟩ = some (.int .i64 o1) ∧ w'.cell? ⟨pc, 1, none⟩ = some (.int .i64 n1) ∧ w'.cell? ⟨pc, 2, none⟩ = some (.slice (some ⟨g, 0, none⟩) l1 l1))
    (first | (with_reducible exact ⟨p0, p1, p2, s0, s1, s2, t0, t1, t2⟩))
    (first
      | (go_at_call 23
         refine (HA.out _ _ _ HL.out).mono ?_
         rintro e5 w5 ⟨rfl, hb⟩
         have HL := Lib.hid (HL.out.next hb)
         clear hb
         have p0 := HL.out.t.r1.c0
         have p1 := HL.out.t.r1.c1
         have p2 := HL.out.t.r1.c2
         have s0 := HL.out.t.r2.c0
         have s1 := HL.out.t.r2.c1
         have s2 := HL.out.t.r2.c2
         have t0 := HL.out.rc.c0
         have t1 := HL.out.rc.c1
         have t2 := HL.out.rc.c2)
      | (go_at_call_of 18 cap2
         refine (HB.out _ _ _ HL.out).mono ?_
         rintro e5 w5 ⟨rfl, hb⟩
         have HL := Lib.hid (HL.out.next hb)
         clear hb
         have p0 := HL.out.t.r1.c0
         have p1 := HL.out.t.r1.c1
         have p2 := HL.out.t.r1.c2
         have s0 := HL.out.t.r2.c0
         have s1 := HL.out.t.r2.c1
         have s2 := HL.out.t.r2.c2
         have t0 := HL.out.rc.c0
         have t1 := HL.out.rc.c1
         have t2 := HL.out.rc.c2)
      | (go_at_call_of 18 g
         refine (HC.out _ _ _ HL.out).mono ?_
         rintro e5 w5 ⟨rfl, hb⟩
         have HL := Lib.hid (HL.out.next hb)
         clear hb
         have p0 := HL.out.t.r1.c0
         have p1 := HL.out.t.r1.c1
         have p2 := HL.out.t.r1.c2
         have s0 := HL.out.t.r2.c0
         have s1 := HL.out.t.r2.c1
         have s2 := HL.out.t.r2.c2
         have t0 := HL.out.rc.c0
         have t1 := HL.out.rc.c1
         have t2 := HL.out.rc.c2))
  clear HA HB HC qb
  have pA := (HL.out.next (Joins.below_alloc1 _ (.cells #[] 45))).t.r1.c2
  go_wp2_with (at_builtin; refine wpList_app0 _ rfl _ _ rfl rfl a1 l1 cap1 rfl us (isUs_below HU.out HL.out.t.bel) hcap hno (by omega) ?_)
  intro a' c' w6 hu6 hb6 hn6
  have hgw := HL.out.rw.lt
  have HN : Hid (∀ b off, a' = some ⟨b, off, none⟩ → g < b) := fun b off e => Nat.lt_of_lt_of_le hgw (hn6 b off e)
  have HL6 := Lib.hid (HL.out.next hb6)
  have t2 := HL6.out.rc.c2
  have HU6 := Lib.hid hu6
  clear hu6 hb6 hn6 HL p0 p1 p2 s0 s1 s2 t0 t1 pA
  go_wp2_with fail
  clear t2
  go_loopw [41] (fun v41 wr => ∃ (k : Nat) (l : List Up), k ≤ l1 ∧ v41 = .int .i64 k ∧ l.length = l1 ∧ LC w wr o1 n1 a1 l1 cap1 o2 n2 a2 l2 cap2 pc g l ∧ IsUs wr a' l1 us) (fun v41 _ => l1 - (intOf v41).toNat)
  case atStart => exact ⟨0, us, Nat.zero_le _, rfl, hsz, HL6.out, HU6.out⟩
  case round =>
    obtain ⟨k, l, hk, rfl, hll, hl, hw⟩ := hrel
    clear HL6 HU6
    have t2 := hl.rc.c2
    by_cases hlt : k < l1
    · obtain ⟨x0, x1, x2, x3⟩ := hl.rw.row k (by omega)
      have f0 := hl.rw.f0 (k * 4)
      have f1 := hl.rw.f0 (k * 4 + 1)
      have f2 := hl.rw.f0 (k * 4 + 2)
      have f3 := hl.rw.f0 (k * 4 + 3)
      have HL2 := Lib.hid (hl.set k (by omega) (⟨#[111, 116, 104, 101, 114]⟩, 0, 0, ⟨#[]⟩))
      have HW2 := Lib.hid (isUs_kept (row := some g) hw (grown_trans (grown_trans (grown_trans (grown_set _ g (k * 4) (.string ⟨#[111, 116, 104, 101, 114]⟩)) (grown_set _ g (k * 4 + 1) (.int .i64 0))) (grown_set _ g (k * 4 + 2) (.int .i64 0))) (grown_set _ g (k * 4 + 3) (.string ⟨#[]⟩))) (fun b off e => by have := HN.out b off e; simp; omega))
      have HLL := Lib.hid hll
      clear hl hw hll
      go_wp2
      go_roundw
      case rel => exact ⟨k + 1, _, by omega, by go_num, by rw [List.length_set]; exact HLL.out, HL2.out, HW2.out⟩
      case measure => simp [intOf]; omega
    · obtain rfl : k = l1 := by omega
      have p0 := hl.t.r1.c0
      have p1 := hl.t.r1.c1
      have p2 := hl.t.r1.c2
      have HS := fun c' => Lib.hid (docsame_any o1 n1 a1 k cap1 o1 n1 a' k c' us us (by omega) _ (isUs_below HU.out hl.t.bel) hw)
      rw [decide_eq_true (show o1 = o1 ∧ n1 = n1 ∧ us = us from ⟨rfl, rfl, rfl⟩)] at HS
      have HB := Lib.hid hl.t.bel
      clear hl hw hll
      go_wp2_with fail
      refine (HS c').out.mono ?_
      rintro e9 w9 ⟨rfl, hb⟩
      have HB9 := Lib.hid (Below.next HB.out hb)
      clear hb HB HS p0 p1 p2 t2
      go_wp2
      go_ret
      exact ⟨rfl, HB9.out⟩
end Go.Proofs.YtcknklodnfabpaaDoor

/- Same, all; the fixed example. -/
import Derived.Test.YtjnjpphbclepbaaHD
namespace Go.Proofs.Ytjnjpphbclepbaa
open Go Go.RowKit
set_option maxRecDepth 20000
theorem eq_yes (s : ByteArray) : (s.toList == s.toList) = true := by simp
theorem below_asit {w w' : World} {B : Nat} (e : w'.heap = w.heap) (e1 : w'.os = w.os) (e2 : w'.tape = w.tape) (e3 : w'.output = w.output) : Below B w w' := ⟨e1, e2, e3, by rw [e]; exact Nat.le_refl _, fun i _ => by rw [e]⟩
set_option maxHeartbeats 4000000 in
theorem same_yes (a1 a2 : Option Addr) (len x1 x2 : Nat) (ps : List Pkt) (hl : len ≤ 1000000) (w : World) (h1 : PsAt w a1 len ps) (h2 : PsAt w a2 len ps) :
    Calls Try.prog 11 #[.slice a1 len x1, .slice a2 len x2] w fun e w' => e = .returned (.bool true) ∧ w'.heap = w.heap ∧ w'.os = w.os ∧ w'.tape = w.tape ∧ w'.output = w.output := by
  have H1 := Lib.hid h1
  have H2 := Lib.hid h2
  clear h1 h2
  go_enter Try.func11, Try.ntmps11
  go_wp2_with fail
  go_loopw [5] (fun v5 wr => ∃ i : Nat, i ≤ len ∧ v5 = .int .i64 i ∧ (wr.heap = w.heap ∧ wr.os = w.os ∧ wr.tape = w.tape ∧ wr.output = w.output)) (fun v5 _ => len - (intOf v5).toNat)
  case atStart => exact ⟨0, Nat.zero_le _, rfl, rfl, rfl, rfl, rfl⟩
  case round =>
    obtain ⟨i, hi, rfl, hE⟩ := hrel
    have HE := Lib.hid hE
    by_cases hlt : i < len
    · obtain ⟨b1, o1, rfl, _, f1⟩ := (H1.out.asit hE.1).lies (by omega)
      obtain ⟨b2, o2, rfl, _, f2⟩ := (H2.out.asit hE.1).lies (by omega)
      obtain ⟨d0, d1, d2⟩ := f1 i (by omega)
      obtain ⟨g0, g1, g2⟩ := f2 i (by omega)
      clear f1 f2 hE
      generalize ps.getD i pk0 = f at *
      obtain ⟨e, s, d⟩ := f
      simp only at d0 d1 d2 g0 g1 g2
      have q := eq_yes d
      go_wp2_with fail
      go_quiet (fail)
      go_wp2
      go_roundw
      case rel => exact ⟨i + 1, by omega, by go_num, HE.out⟩
      case measure => simp [intOf]; omega
    · obtain rfl : i = len := by omega
      clear hE
      go_wp2
      go_ret
      exact ⟨rfl, HE.out⟩
section
variable {B b : Nat} {l : List Pk}
theorem atP_nat {k : Nat} (hk : k < l.length) : atP l (k : Int) = pktOf (l.getD k pq0) ∧ inb l (k : Int) := by
  have h : inb l (k : Int) := ⟨by omega, by omega⟩
  refine ⟨?_, h⟩
  unfold atP
  rw [if_pos h]
  rfl
set_option maxHeartbeats 4000000 in
theorem all_any (w : World) (h : Ck B w b l) : Calls Try.prog 12 #[.pointer (some ⟨b, 0, none⟩)] w fun e w' => ∃ a c, e = .returned (.slice a l.length c) ∧ RowP w.heap.size w' (.slice a l.length c) (l.map pktOf) ∧ Below w.heap.size w w' := by
  have HK := Lib.hid h
  have HLE := Lib.hid h.ok.len
  obtain ⟨n, hn⟩ : ∃ n, l.length = n := ⟨_, rfl⟩
  have HN := Lib.hid hn
  have HL := fun W (hW : Ck B W b l) => Lib.hid (ck_len (w := W) hW)
  rw [hn] at HL ⊢
  have hn4 : n ≤ 4096 := by have := HLE.out; omega
  clear h hn
  go_enter Try.func12, Try.ntmps12
  go_wp2_with fail
  refine (HL _ HK.out).out.mono ?_
  rintro e w1 ⟨rfl, hw⟩
  obtain rfl := hw.symm
  go_wp2_with fail
  go_loopw [3, 9] (fun v3 v9 wr => ∃ (k : Nat) (a : Option Addr) (c : Nat), k ≤ n ∧ v9 = .int .i64 k ∧ v3 = .slice a k c ∧ RowP w.heap.size wr (.slice a k c) ((l.map pktOf).take k) ∧ Below w.heap.size w wr) (fun _ v9 _ => n - (intOf v9).toNat)
  case atStart => exact ⟨0, none, 0, Nat.zero_le _, rfl, rfl, by rw [List.take_zero]; exact rowP_nil _ _, Below.refl _ _⟩
  case round =>
    obtain ⟨k, a, c, hk, rfl, rfl, hr, hb⟩ := hrel
    by_cases hlt : k < n
    · have hkl : k < l.length := by rw [HN.out]; exact hlt
      obtain ⟨e1, e2⟩ := atP_nat hkl
      have HA := fun W (hW : Ck B W b l) => Lib.hid (ck_at (w := W) (k : Int) hW)
      rw [e1, decide_eq_true e2] at HA
      obtain ⟨⟨pf, pt, pd⟩, hp⟩ : ∃ p, pktOf (l.getD k pq0) = p := ⟨_, rfl⟩
      rw [hp] at HA
      unfold pv at HA
      simp only at HA
      have HTK : Hid ((l.map pktOf).take (k + 1) = (l.map pktOf).take k ++ [(pf, pt, pd)]) := Lib.hid (by
        rw [List.take_add_one, ← hp]
        simp [List.getD_eq_getElem?_getD, hkl])
      have HLK : Hid (((l.map pktOf).take k).length = k) := Lib.hid (by rw [List.length_take, List.length_map]; omega)
      have HKR := Lib.hid (HK.out.next hb)
      obtain ⟨xs, hxs⟩ : ∃ xs, (l.map pktOf).take k = xs := ⟨_, rfl⟩
      rw [hxs] at HTK HLK hr
      have HR := Lib.hid hr
      have HB := Lib.hid hb
      clear hr hb e1 e2 hp hxs
      go_wp2_with fail
      refine (HA _ HKR.out).out.mono ?_
      rintro e w2 ⟨rfl, hb2⟩
      have HB2 := Lib.hid (Below.next HB.out hb2)
      have HR2 := Lib.hid (HR.out.below hb2)
      clear hb2
      go_wp2_with (at_builtin; refine wpList_appP rfl (.tmp 18) (.tmp 20) rfl w.heap.size _ xs rfl ((HR2.out.alloc (.cells #[.int .i64 pf, .int .i64 pt, .string pd] 39)).alloc (.cells #[.int .i64 pf, .int .i64 pt, .string pd] 39)) (some ⟨w2.heap.size + 1, 0, none⟩) 1 1 rfl [(pf, pt, pd)] (by have := psAt_one (w2.alloc (.cells #[.int .i64 pf, .int .i64 pt, .string pd] 39)) pf pt pd; rw [show (w2.alloc (.cells #[.int .i64 pf, .int .i64 pt, .string pd] 39)).heap.size = w2.heap.size + 1 by simp] at this; exact this) (Nat.le_refl _) (fun e => by cases e) (by rw [HLK.out]; have := HLE.out; have := HN.out; omega) (by have := HB2.out.size; simp; omega) ?_)
      intro a3 c3 w3 hr3 hg3 _
      rw [HLK.out] at hr3 ⊢
      have HR3 : Hid (RowP w.heap.size w3 (.slice a3 (k + 1) c3) ((l.map pktOf).take (k + 1))) := Lib.hid (by rw [HTK.out]; exact hr3)
      have HB3 : Hid (Below w.heap.size w w3) := Lib.hid (belP ((HR2.out.alloc (.cells #[.int .i64 pf, .int .i64 pt, .string pd] 39)).alloc (.cells #[.int .i64 pf, .int .i64 pt, .string pd] 39)) (Below.step (Below.step HB2.out _ (Below.refl _ _)) _ (Below.refl _ _)) hg3 (by have := HB2.out.size; simp; omega))
      clear hr3 hg3
      go_wp2
      go_roundw
      case rel => exact ⟨k + 1, a3, c3, by omega, by go_num, rfl, HR3.out, HB3.out⟩
      case measure => simp [intOf]; omega
    · obtain rfl : k = n := by omega
      have HR : Hid (RowP w.heap.size wr (.slice a k c) (l.map pktOf)) := Lib.hid (by
        rw [List.take_of_length_le (by rw [List.length_map, HN.out]; exact Nat.le_refl _)] at hr
        exact hr)
      have HB := Lib.hid hb
      clear hr hb
      go_wp2
      go_ret
      exact ⟨_, _, rfl, HR.out, HB.out⟩
end
theorem psAt_lit {w : World} {g : Nat} (hg : w.heap.size = g) (ps : List Pkt) (n : Nat) (cs : Array Value) (hn : ps.length = n) (hc : cs = (flP ps).toArray) (hm : n ≤ 1000) : PsAt (w.alloc (.cells cs 39)) (some ⟨g, 0, none⟩) n ps := by
  subst hn hc hg
  have h : RowP w.heap.size (w.alloc (.cells (flP ps).toArray 39)) (.slice (some ⟨w.heap.size, 0, none⟩) ps.length ps.length) ps := by
    have := World.ownsRow_lit (base := w.heap.size) (e := 39) (size := 3) w (flP ps).toArray ps.length (Nat.le_refl _) (by unfold maxLen; omega) (by simpa using flP_len ps)
    simpa [RowP] using this
  exact (h.isP rfl).1
def sP : ByteArray := ⟨#[112]⟩
def sQ : ByteArray := ⟨#[113]⟩
def aw0 : List Pk := [(1, 0, sP, false), (0, 1, sQ, false)]
def aw1 : List Pk := [(1, 0, sP, false), (0, 1, sQ, false), (1, 0, sP, false)]
def aw2 : List Pk := [(1, 0, sP, false), (1, 0, sP, false)]
def aw3 : List Pk := [(1, 0, sQ, true), (1, 0, sP, false)]
theorem aw_add : addL [] [(1, 0, sP), (0, 1, sQ)] = aw0 ∧ addN [] [(1, 0, sP), (0, 1, sQ)] = 2 := ⟨rfl, rfl⟩
theorem aw_tw : twL aw0 0 = aw1 ∧ twE aw0 0 = 0 := ⟨rfl, rfl⟩
theorem aw_tk : tkL aw1 1 = aw2 ∧ atP aw1 1 = (0, 1, sQ) ∧ decide (inb aw1 1) = true := ⟨rfl, rfl, rfl⟩
theorem aw_sp : spL aw2 0 0 1 = aw3 ∧ spE aw2 0 = 0 := ⟨by kernel_rfl, rfl⟩
theorem aw_sp2 : spL aw3 0 0 1 = aw3 ∧ spE aw3 0 = 12 := ⟨rfl, rfl⟩
theorem aw_sp3 : spL aw3 5 0 1 = aw3 ∧ spE aw3 5 = 11 := ⟨rfl, rfl⟩
theorem aw_at : atP aw3 0 = (1, 0, sQ) ∧ decide (inb aw3 0) = true ∧ aw3.length = 2 := ⟨rfl, rfl, rfl⟩
set_option maxHeartbeats 8000000 in
/-- The example is as it should be. -/
theorem awake_any (w : World) : Calls Try.prog 8 #[] w fun e w' => e = .returned (.bool true) ∧ Below w.heap.size w w' := by
  have AD := aw_add
  have T1 := fun (B b : Nat) (w : World) (h : Ck B w b aw0) => Lib.hid (ck_twice 0 h)
  rw [aw_tw.1, aw_tw.2] at T1
  have T2 := fun (B b : Nat) (w : World) (h : Ck B w b aw1) => Lib.hid (ck_take 1 h)
  rw [aw_tk.1, aw_tk.2.1, aw_tk.2.2] at T2
  have T3 := fun (B b : Nat) (w : World) (h : Ck B w b aw2) => Lib.hid (ck_spoil 0 0 (by decide) (by decide) 1 (by decide) h)
  rw [aw_sp.1, aw_sp.2] at T3
  have T4 := fun (B b : Nat) (w : World) (h : Ck B w b aw3) => Lib.hid (ck_spoil 0 0 (by decide) (by decide) 1 (by decide) h)
  rw [aw_sp2.1, aw_sp2.2] at T4
  have T5 := fun (B b : Nat) (w : World) (h : Ck B w b aw3) => Lib.hid (ck_spoil 5 0 (by decide) (by decide) 1 (by decide) h)
  rw [aw_sp3.1, aw_sp3.2] at T5
  have T6 := fun (B b : Nat) (w : World) (h : Ck B w b aw3) => Lib.hid (ck_at 0 h)
  rw [aw_at.1, aw_at.2.1] at T6
  have T7 := fun (B b : Nat) (w : World) (h : Ck B w b aw3) => Lib.hid (ck_len h)
  rw [aw_at.2.2] at T7
  unfold pv at *
  simp only at T2 T6
  go_enter Try.func8, Try.ntmps8
  go_wp2_with fail
  refine (ck_new _).mono ?_
  rintro e w1 ⟨rfl, hk, hb, hs⟩
  have HK1 := Lib.hid hk
  have HB1 := Lib.hid hb
  clear hk hb hs
  simp only [sQ] at T2 T6
  have QQ := eq_yes (⟨#[113]⟩ : ByteArray)
  go_wp2_with fail
  refine (ck_add (l := []) (some ⟨w1.heap.size + 1 + 1, 0, none⟩) 2 2 [(1, 0, sP), (0, 1, sQ)] (HK1.out.next (Joins.below_alloc3 _ _ _ _)) (psAt_lit (by simp) [(1, 0, sP), (0, 1, sQ)] 2 #[.int .i64 1, .int .i64 0, .string ⟨#[112]⟩, .int .i64 0, .int .i64 1, .string ⟨#[113]⟩] rfl rfl (by decide)) (Nat.le_refl _) (fun g off e => by cases e; exact ⟨_, _, new_at (by simp)⟩) (by decide) (by decide)).mono ?_
  rw [AD.1, AD.2]
  rintro e w2 ⟨rfl, hk, hw⟩
  have HK2 := Lib.hid hk
  have HB2 : Hid (Below w.heap.size w w2) := Lib.hid ((HB1.out.trans (Joins.below_alloc3 w1 _ _ _ |>.mono HB1.out.size)).trans (hw.below (by have := HB1.out.size; simp; omega)))
  have HQ2 : Hid (w2.heap[w1.heap.size + 1]? = some (.cells #[.int .i64 0, .int .i64 1, .string ⟨#[113]⟩] 39 (0, 0))) := Lib.hid (hw.cells (old_at (new_at (by simp))) (by decide) (by decide))
  clear hk hw HK1
  go_wp2_with fail
  refine (T1 _ _ _ HK2.out).out.mono ?_
  rintro e w3 ⟨rfl, hk, hw⟩
  have HK3 := Lib.hid hk
  have HB3 : Hid (Below w.heap.size w w3) := Lib.hid (HB2.out.trans (hw.below HB2.out.size))
  have HQ3 := Lib.hid (hw.cells HQ2.out (by decide) (by decide))
  clear hk hw
  go_wp2_with fail
  refine (T2 _ _ _ HK3.out).out.mono ?_
  rintro e w4 ⟨rfl, hk, hw⟩
  have HK4 := Lib.hid (hk.next (Joins.below_alloc1 w4 (.cells #[.int .i64 0, .int .i64 1, .string ⟨#[113]⟩] 39)))
  have HB4 : Hid (Below w.heap.size w (w4.alloc (.cells #[.int .i64 0, .int .i64 1, .string ⟨#[113]⟩] 39))) := Lib.hid ((HB3.out.trans (hw.below HB3.out.size)).alloc (Nat.le_trans HB3.out.size hw.size) _)
  have HQ4 : Hid ((w4.alloc (.cells #[.int .i64 0, .int .i64 1, .string ⟨#[113]⟩] 39)).heap[w1.heap.size + 1]? = some (.cells #[.int .i64 0, .int .i64 1, .string ⟨#[113]⟩] 39 (0, 0))) := Lib.hid (old_at (hw.cells HQ3.out (by decide) (by decide)))
  have HX4 : Hid ((w4.alloc (.cells #[.int .i64 0, .int .i64 1, .string ⟨#[113]⟩] 39)).heap[w4.heap.size]? = some (.cells #[.int .i64 0, .int .i64 1, .string ⟨#[113]⟩] 39 (0, 0))) := Lib.hid (new_at rfl)
  clear hk hw
  go_wp2_with fail
  refine (T3 _ _ _ HK4.out).out.mono ?_
  rintro e w5 ⟨rfl, hk, hw⟩
  have HK5 := Lib.hid hk
  have HB5 := Lib.hid (HB4.out.trans (hw.below HB4.out.size))
  have HQ5 := Lib.hid (hw.cells HQ4.out (by decide) (by decide))
  have HX5 := Lib.hid (hw.cells HX4.out (by decide) (by decide))
  clear hk hw
  go_wp2_with fail
  refine (T4 _ _ _ HK5.out).out.mono ?_
  rintro e w6 ⟨rfl, hk, hw⟩
  have HK6 := Lib.hid hk
  have HB6 := Lib.hid (HB5.out.trans (hw.below HB5.out.size))
  have HQ6 := Lib.hid (hw.cells HQ5.out (by decide) (by decide))
  have HX6 := Lib.hid (hw.cells HX5.out (by decide) (by decide))
  clear hk hw
  go_wp2_with fail
  refine (T5 _ _ _ HK6.out).out.mono ?_
  rintro e w7 ⟨rfl, hk, hw⟩
  have HK7 := Lib.hid hk
  have HB7 := Lib.hid (HB6.out.trans (hw.below HB6.out.size))
  have HQ7 := Lib.hid (hw.cells HQ6.out (by decide) (by decide))
  have HX7 := Lib.hid (hw.cells HX6.out (by decide) (by decide))
  clear hk hw
  go_wp2_with fail
  refine (T6 _ _ _ HK7.out).out.mono ?_
  rintro e w8 ⟨rfl, hb⟩
  have HK8 := fun o => Lib.hid ((HK7.out.next hb).next (Joins.below_alloc1 w8 o))
  have HB8 := Lib.hid (HB7.out.trans (hb.mono HB7.out.size))
  have hq := kept_at HQ7.out hb
  have hx := kept_at HX7.out hb
  have c0 := fun o => cell_at (old_at (o := o) hq) 0 (.int .i64 0) rfl
  have c1 := fun o => cell_at (old_at (o := o) hq) 1 (.int .i64 1) rfl
  have c2 := fun o => cell_at (old_at (o := o) hq) 2 (.string ⟨#[113]⟩) rfl
  have d0 := fun o => cell_at (old_at (o := o) hx) 0 (.int .i64 0) rfl
  have d1 := fun o => cell_at (old_at (o := o) hx) 1 (.int .i64 1) rfl
  have d2 := fun o => cell_at (old_at (o := o) hx) 2 (.string ⟨#[113]⟩) rfl
  clear hb hq hx
  go_wp2_with fail
  refine (T7 _ _ _ (HK8 _).out).out.mono ?_
  rintro e w9 ⟨rfl, rfl⟩
  go_wp2
  go_ret
  exact ⟨rfl, HB8.out.alloc HB8.out.size _⟩
end Go.Proofs.Ytjnjpphbclepbaa

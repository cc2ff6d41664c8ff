/- The walk of StoreCopies. -/
import Derived.Test.YtfcbilpbcofcfaaSP
namespace Go.Proofs.Ytfcbilpbcofcfaa
open Go Go.RowKit Go.Maps Go.Sort
theorem sl_front (a : Option Addr) (len cap n : Nat) (h : n ≤ cap) (w : World) : (Instr.sliceAt 22 (.slice a len cap) none (some (.int .i64 n)) none).run Try.prog w = .ok (.slice a n cap) w := by
  rw [run_sliceAt_slice _ _ _ _ _ _ Try.underlying22]
  cases a <;> simp [Instr.slice, Instr.sliceBounds, Instr.sliceBound, asIntOf, run_underlying Try.underlying22, go_sem] <;> (intro hx; omega)
theorem sl_back (a : Option Addr) (len cap n : Nat) (h : n ≤ len) (w : World) : (Instr.sliceAt 22 (.slice a len cap) (some (.int .i64 n)) none none).run Try.prog w = .ok (.slice (if cap = n then a else a.map (·.add (n * 4))) (len - n) (cap - n)) w := by
  rw [run_sliceAt_slice _ _ _ _ _ _ Try.underlying22]
  simp [Instr.slice, Instr.sliceBounds, Instr.sliceBound, asIntOf, run_underlying Try.underlying22, go_sem]
  intro hx; omega
theorem getD_drop (us : List Up) (n k : Nat) : (us.drop n).getD k up0 = us.getD (n + k) up0 := by
  simp [List.getD_eq_getElem?_getD]
theorem isUs_drop {w : World} {a : Option Addr} {len cap : Nat} {us : List Up} (h : IsUs w a len us) (hlc : len ≤ cap) {n : Nat} (hn : n ≤ len) : IsUs w (if cap = n then a else a.map (·.add (n * 4))) (len - n) (us.drop n) := by
  have hs := h.size
  refine ⟨by rw [List.length_drop]; omega, fun h0 => ?_⟩
  obtain ⟨b, off, rfl, hf⟩ := h.lies (by omega)
  have e : (if cap = n then some (⟨b, off, none⟩ : Addr) else (some (⟨b, off, none⟩ : Addr)).map (·.add (n * 4))) = some ⟨b, off + n * 4, none⟩ := by
    rw [if_neg (by omega)]
    simp [Addr.add_lit]
  refine ⟨b, off + n * 4, e, four fun i hi => ?_⟩
  rw [List.length_drop] at hi
  rw [getD_drop]
  have e4 : off + n * 4 + i * 4 = off + (n + i) * 4 := by omega
  rw [e4]
  exact ⟨hf.key (n + i) (by omega), hf.k (n + i) (by omega), hf.n (n + i) (by omega), hf.t (n + i) (by omega)⟩
theorem Tw.next {B w wr W w1 b m n f b' m' n' f'} (h : Tw B w wr b m n f b' m' n' f') (hb : Below W.heap.size W w1) (e1 : W.os = wr.os) (e2 : W.tape = wr.tape) (e3 : W.output = wr.output) (e4 : W.heap = wr.heap) : Tw B w w1 b m n f b' m' n' f' := by
  have hl := h.one.ltm
  have h0 := h.lo
  refine ⟨(h.one.same e4).below hb, (h.two.same e4).below hb, h.ne, h.lo, h.lo', Below.trans (b := W) ⟨e1.trans h.bel.os, e2.trans h.bel.tape, e3.trans h.bel.output, by rw [e4]; exact h.bel.size, fun k hk => by rw [e4]; exact h.bel.block k hk⟩ (hb.mono (by rw [e4]; omega))⟩
theorem head_cell {wr : World} {uk : ByteArray} {ux un : Int} {ut : ByteArray} : (wr.alloc (.cells #[.string uk, .int .i64 ux, .int .i64 un, .string ut] 28)).cell? ⟨wr.heap.size, 0, none⟩ = some (.string uk) := cell_at (new_at rfl) 0 _ rfl
theorem cell_next {W wr w1 : World} {X : Nat} {v : Value} (h : wr.cell? ⟨X, 0, none⟩ = some v) (hb : Below W.heap.size W w1) (e : W.heap = wr.heap) : w1.cell? ⟨X, 0, none⟩ = some v := by
  have hl : X < wr.heap.size := block_lt_of_cell h
  rw [hb.cell (by rw [e]; exact hl), World.cell?_of_block (w := wr) (by rw [e])]
  exact h
set_option maxHeartbeats 8000000 in
theorem walkCopies (a : Option Addr) (len cap : Nat) (us : List Up) (at_ : Int) (hlc : len ≤ cap) (hac : a = none → cap = 0) (w : World) (h : IsUs w a len us) :
    Calls Try.prog 6 #[.slice a len cap, .int .i64 at_] w fun e w' => e = .returned (.bool true) ∧ Below w.heap.size w w' := by
  have H := Lib.hid h
  have hsz := h.size
  clear h
  by_cases hg : gL len us
  · have HG := fun w h => Lib.hid (great_yes a len cap us hg w h)
    clear hg
    go_enter Try.func6, Try.ntmps6
    go_wp2_with fail
    refine (new_ex _).mono ?_
    rintro e w1 ⟨b1, m1, rfl, hb1, hm1, h1, hbl1⟩
    have HB1 := Lib.hid hbl1
    clear h1 hbl1
    go_wp2_with fail
    refine (awake_yes _).mono ?_
    rintro e w3 ⟨rfl, hbl3⟩
    have HB3 := Lib.hid (Below.next HB1.out hbl3)
    clear hbl3 HB1
    go_wp2_with fail
    refine (HG _ (isUs_below H.out HB3.out)).out.mono ?_
    rintro e w4 ⟨rfl, hbl4⟩
    have HB4 := Lib.hid (Below.next HB3.out hbl4)
    clear hbl4 HB3
    go_wp2_with fail
    refine (awake_yes _).mono ?_
    rintro e w5 ⟨rfl, hbl5⟩
    have HB5 := Lib.hid (Below.next HB4.out hbl5)
    clear hbl5 HB4
    go_wp2
    go_ret
    exact ⟨rfl, HB5.out⟩
  have HG := fun w h => Lib.hid (great_no a len cap us hg w h)
  have HS := Lib.hid (gL_sh hsz hg)
  have hl := gL_len hg
  clear hg
  by_cases hn : at_ < 0
  · have q : decide (at_ < 0) = true := decide_eq_true hn
    go_enter Try.func6, Try.ntmps6
    go_wp2_with fail
    refine (new_ex _).mono ?_
    rintro e w1 ⟨b1, m1, rfl, hb1, hm1, h1, hbl1⟩
    have HB1 := Lib.hid hbl1
    clear h1 hbl1
    go_wp2_with fail
    refine (awake_yes _).mono ?_
    rintro e w3 ⟨rfl, hbl3⟩
    have HB3 := Lib.hid (Below.next HB1.out hbl3)
    clear hbl3 HB1
    go_wp2_with fail
    refine (HG _ (isUs_below H.out HB3.out)).out.mono ?_
    rintro e w4 ⟨rfl, hbl4⟩
    have HB4 := Lib.hid (Below.next HB3.out hbl4)
    clear hbl4 HB3
    go_wp2_with fail
    refine (awake_yes _).mono ?_
    rintro e w5 ⟨rfl, hbl5⟩
    have HB5 := Lib.hid (Below.next HB4.out hbl5)
    clear hbl5 HB4
    go_wp2
    go_ret
    exact ⟨rfl, HB5.out⟩
  by_cases hn2 : (len : Int) < at_
  · have q : decide (at_ < 0) = false := decide_eq_false hn
    have q2 : decide ((len : Int) < at_) = true := decide_eq_true hn2
    go_enter Try.func6, Try.ntmps6
    go_wp2_with fail
    refine (new_ex _).mono ?_
    rintro e w1 ⟨b1, m1, rfl, hb1, hm1, h1, hbl1⟩
    have HB1 := Lib.hid hbl1
    clear h1 hbl1
    go_wp2_with fail
    refine (awake_yes _).mono ?_
    rintro e w3 ⟨rfl, hbl3⟩
    have HB3 := Lib.hid (Below.next HB1.out hbl3)
    clear hbl3 HB1
    go_wp2_with fail
    refine (HG _ (isUs_below H.out HB3.out)).out.mono ?_
    rintro e w4 ⟨rfl, hbl4⟩
    have HB4 := Lib.hid (Below.next HB3.out hbl4)
    clear hbl4 HB3
    go_wp2_with fail
    refine (awake_yes _).mono ?_
    rintro e w5 ⟨rfl, hbl5⟩
    have HB5 := Lib.hid (Below.next HB4.out hbl5)
    clear hbl5 HB4
    go_wp2
    go_ret
    exact ⟨rfl, HB5.out⟩
  obtain ⟨n, rfl⟩ : ∃ n : Nat, at_ = n := ⟨at_.toNat, by omega⟩
  have hnl : n ≤ len := by omega
  have q2 : decide (len < n) = false := decide_eq_false (by omega)
  have hs1 := sl_front a len cap n (by omega)
  have hs2 := sl_back a len cap n hnl
  have HI2 := Lib.hid (isUs_drop (cap := cap) H.out hlc hnl)
  generalize (if cap = n then a else a.map (·.add (n * 4))) = R at *
  have HI1 := Lib.hid (isUs_take H.out hnl)
  clear hn hn2
  go_enter Try.func6, Try.ntmps6
  go_wp2_with fail
  refine (new_ex _).mono ?_
  rintro e w1 ⟨b1, m1, rfl, hb1, hm1, h1, hbl1⟩
  have H1 := Lib.hid h1
  have HB1 := Lib.hid hbl1
  clear h1 hbl1
  go_wp2_with fail
  refine (awake_yes _).mono ?_
  rintro e w3 ⟨rfl, hbl3⟩
  have H3 := Lib.hid (one_st w b1 m1 H1.out HB1.out hbl3)
  clear hbl3 HB1 H1
  go_wp2_with fail
  refine (HG _ (isUs_below H.out H3.out.2)).out.mono ?_
  rintro e w4 ⟨rfl, hbl4⟩
  have H4 := Lib.hid (one_st w b1 m1 H3.out.1 H3.out.2 hbl4)
  clear hbl4 H3 HG
  go_wp2_with fail
  go_loopw [39] (fun v wr => ∃ k : Nat, k ≤ n ∧ v = .int .i64 k ∧ St wr b1 m1 k (stF (us.take k)) ∧ Below w.heap.size w wr) (fun v _ => n - (intOf v).toNat)
  case atStart => exact ⟨0, Nat.zero_le _, rfl, H4.out.1, H4.out.2⟩
  case round =>
    obtain ⟨k, hk, rfl, hst, hbel⟩ := hrel
    clear H4
    by_cases hlt : k < n
    · obtain ⟨b, off, rfl, c0, c1, c2, c3⟩ := cells_of H.out hbel (show k < len by omega)
      have HD := fun W h => Lib.hid (do_next HS.out (k := k) (by omega) b1 m1 k (by omega) W h)
      have HST := Lib.hid hst
      have HBEL := Lib.hid hbel
      clear hst hbel
      generalize us.getD k up0 = u at *
      obtain ⟨key, ux, un, ut⟩ := u
      simp only [uu] at HD c0 c1 c2 c3
      go_wp2_with fail
      refine (HD _ (HST.out.alloc _)).out.mono ?_
      rintro e w5 ⟨rfl, h5, hg5⟩
      have H5 := Lib.hid h5
      have HB5 := Lib.hid (bgrown (HBEL.out.alloc HBEL.out.size _) hg5 (by have := HBEL.out.size; simp; omega) hm1)
      clear h5 hg5 HST HBEL HD
      go_wp2
      go_roundw
      case rel => exact ⟨k + 1, by omega, by go_num, H5.out, HB5.out⟩
      case measure => simp [intOf]; omega
    · obtain rfl : k = n := by omega
      have HST := Lib.hid hst
      have HBEL := Lib.hid hbel
      clear hst hbel
      go_wp2_with fail
      refine (copy_any _ _ k _ _ HST.out).mono ?_
      rintro e w5 ⟨b2, m2, rfl, hb2, hm2, h5, hbl5⟩
      have hlm := HST.out.ltm
      have HT5 : Hid (Tw w.heap.size w w5 b1 m1 k (stF (us.take k)) b2 m2 k (stF (us.take k))) := ⟨HST.out.below hbl5, h5, by omega, hm1, by omega, Below.next HBEL.out hbl5⟩
      clear h5 hbl5 HST HBEL hlm hb2 hm2
      go_wp2_with fail
      go_loopw [55] (fun v wr => ∃ j : Nat, j ≤ len - k ∧ v = .int .i64 j ∧ Tw w.heap.size w wr b1 m1 (k + j) (stF (us.take (k + j))) b2 m2 k (stF (us.take k))) (fun v _ => (len - k) - (intOf v).toNat)
      case atStart => exact ⟨0, Nat.zero_le _, rfl, HT5.out⟩
      case round =>
        obtain ⟨j, hj, rfl, htw⟩ := hrel
        clear HT5
        by_cases hjl : j < len - k
        · obtain ⟨b, off, rfl, c0, c1, c2, c3⟩ := cells_of HI2.out htw.bel hjl
          rw [getD_drop] at c0 c1 c2 c3
          have HD := fun W h => Lib.hid (do_next HS.out (k := k + j) (by omega) b1 m1 (k + j) (by omega) W h)
          have HTW := Lib.hid htw
          clear htw
          generalize us.getD (k + j) up0 = u at *
          obtain ⟨key, ux, un, ut⟩ := u
          simp only [uu] at HD c0 c1 c2 c3
          go_wp2_with fail
          refine (HD _ (HTW.out.alloc _).one).out.mono ?_
          rintro e w6 ⟨rfl, h6, hg6⟩
          have HT6 := Lib.hid ((HTW.out.alloc _).first h6 hg6)
          clear h6 hg6 HTW HD
          go_wp2
          go_roundw
          case rel => exact ⟨j + 1, by omega, by go_num, HT6.out⟩
          case measure => simp [intOf]; omega
        · obtain rfl : j = len - k := by omega
          rw [show k + (len - k) = len by omega, take_all hsz] at htw
          obtain ⟨s1, hk1, hl1⟩ := htw.one.keys
          obtain ⟨s2, hk2, hl2⟩ := htw.two.keys
          have HK1 := fun W h => Lib.hid (keys_any b1 m1 len (stF us) s1 hk1 (kn_st us) (by omega) W h)
          have HK2 := fun W h => Lib.hid (keys_any b2 m2 k (stF (us.take k)) s2 hk2 (kn_st _) (by omega) W h)
          have HR1 := fun W h => Lib.hid (rkeys_any a len cap us s1 hk1 (fun u hu => (HS.out u hu).2) (by omega) W h)
          have HR2 := fun W h => Lib.hid (rkeys_any a k cap (us.take k) s2 hk2 (fun u hu => (HS.out u (List.mem_of_mem_take hu)).2) (by omega) W h)
          have HS1 := fun a1 a2 c1 c2 W h h' => Lib.hid (same_yes a1 a2 c1 c2 s1 (by omega) W h h')
          have HS2 := fun a1 a2 c1 c2 W h h' => Lib.hid (same_yes a1 a2 c1 c2 s2 (by omega) W h h')
          have HTW := Lib.hid htw
          clear htw hk1 hk2
          go_wp2_with fail
          have tok : True := trivial
          go_region_held3 (fun _ => True)
            (first | exact tok)
            (first
              | (go_at_call_of 16 b2
                 refine (HK2 _ ?_).out.mono ?_
                 · exact HTW.out.two.same rfl
                 rintro e w6 ⟨g6, c6, rfl, hr6, hb6⟩
                 have HT6 := Lib.hid (HTW.out.next hb6 rfl rfl rfl rfl)
                 have HI6 := Lib.hid (isSs_own hr6)
                 clear hr6 hb6)
              | (go_at_call_of 15 k
                 refine (HR2 _ (isUs_below HI1.out HT6.out.bel)).out.mono ?_
                 rintro e w7 ⟨g7, c7, rfl, hr7, hb7⟩
                 have HT7 := Lib.hid (HT6.out.next hb7 rfl rfl rfl rfl)
                 have HI7 := Lib.hid (isSs_below HI6.out hb7)
                 have HJ7 := Lib.hid (isSs_own hr7)
                 clear hr7 hb7)
              | (go_at_call_of 17 g6
                 refine (HS2 _ _ _ _ _ HI7.out HJ7.out).out.mono ?_
                 rintro e w8 ⟨rfl, hb8⟩
                 have HT8 := Lib.hid (HT7.out.next hb8 rfl rfl rfl rfl)
                 clear hb8)
              | (go_at_call_of 16 b1
                 refine (HK1 _ HT8.out.one).out.mono ?_
                 rintro e w9 ⟨g9, c9, rfl, hr9, hb9⟩
                 have HT9 := Lib.hid (HT8.out.next hb9 rfl rfl rfl rfl)
                 have HI9 := Lib.hid (isSs_own hr9)
                 clear hr9 hb9)
              | (go_at_call_of 15 len
                 refine (HR1 _ (isUs_below H.out HT9.out.bel)).out.mono ?_
                 rintro e w10 ⟨g10, c10, rfl, hr10, hb10⟩
                 have HT10 := Lib.hid (HT9.out.next hb10 rfl rfl rfl rfl)
                 have HI10 := Lib.hid (isSs_below HI9.out hb10)
                 have HJ10 := Lib.hid (isSs_own hr10)
                 clear hr10 hb10)
              | (go_at_call_of 17 g9
                 refine (HS1 _ _ _ _ _ HI10.out HJ10.out).out.mono ?_
                 rintro e w11 ⟨rfl, hb11⟩
                 have HT11 := Lib.hid (HT10.out.next hb11 rfl rfl rfl rfl)
                 clear hb11))
          clear HTW HT6 HI6 HT7 HI7 HJ7 HT8 HT9 HI9 HT10 HI10 HJ10 HK1 HK2 HR1 HR2 HS1 HS2
          go_wp2_with fail
          go_loopw [81] (fun v wr => ∃ j : Nat, j ≤ len ∧ v = .int .i64 j ∧ St wr b2 m2 k (stF (us.take k)) ∧ Below w.heap.size w wr) (fun v _ => len - (intOf v).toNat)
          case atStart => exact ⟨0, Nat.zero_le _, rfl, HT11.out.two, HT11.out.bel⟩
          case round =>
            obtain ⟨j, hj, rfl, hst, hbel⟩ := hrel
            clear HT11
            by_cases hjl : j < len
            · obtain ⟨b, off, rfl, c0, c1, c2, c3⟩ := cells_of H.out hbel hjl
              have hus := HS.out _ (mem_getD (k := j) (by omega))
              have hgd := take_sh HS.out k (ky (us.getD j up0).1)
              have HG1 := fun W h => Lib.hid (get_any b2 m2 k (stF (us.take k)) (us.getD j up0).1 (by omega) hgd.2.2 W h)
              have HR1 := fun W h => Lib.hid (rget_any (us.getD j up0).1 (some ⟨b, off, none⟩) k cap (us.take k) (fun u hu => (HS.out u (List.mem_of_mem_take hu)).2) (by omega) W h)
              have HST := Lib.hid hst
              have HBEL := Lib.hid hbel
              clear hst hbel hgd hus
              generalize stF (us.take k) (ky (us.getD j up0).1) = r at HG1 HR1
              generalize us.getD j up0 = u at *
              obtain ⟨rk, rn, rs⟩ := r
              obtain ⟨uk, ux, un, ut⟩ := u
              simp only [vv_eq] at HG1 HR1 c0 c1 c2 c3
              go_wp2_with fail
              have d0 := head_cell (wr := wr) (uk := uk) (ux := ux) (un := un) (ut := ut)
              have H1 := Lib.hid (HST.out.alloc (.cells #[.string uk, .int .i64 ux, .int .i64 un, .string ut] 28))
              have HB1 := Lib.hid (HBEL.out.alloc HBEL.out.size (.cells #[.string uk, .int .i64 ux, .int .i64 un, .string ut] 28))
              clear HST HBEL
              go_region_held3 (fun w' => w'.cell? ⟨wr.heap.size, 0, none⟩ = some (.string uk))
                (first | exact d0)
                (first
                  | (go_at_call 13
                     refine (HG1 _ ?_).out.mono ?_
                     · exact H1.out.same rfl
                     rintro e w6 ⟨rfl, hb6⟩
                     have d0 := cell_next d0 hb6 rfl
                     have H6 := Lib.hid ((H1.out.same (w' := World.drew _) rfl).below hb6)
                     have HB6 := Lib.hid (Below.far hb6 HB1.out rfl rfl rfl rfl)
                     clear hb6)
                  | (go_at_call 14
                     refine (HR1 _ (isUs_below HI1.out HB6.out)).out.mono ?_
                     rintro e w7 ⟨rfl, hb7⟩
                     have d0 := cell_next d0 hb7 rfl
                     have H7 := Lib.hid (H6.out.below hb7)
                     have HB7 := Lib.hid (Below.next HB6.out hb7)
                     clear hb7))
              go_wp2
              go_roundw
              case rel => exact ⟨j + 1, by omega, by go_num, H7.out, HB7.out⟩
              case measure => simp [intOf]; omega
            · obtain rfl : j = len := by omega
              have HBEL := Lib.hid hbel
              clear hst hbel
              go_wp2
              go_ret
              exact ⟨rfl, HBEL.out⟩
end Go.Proofs.Ytfcbilpbcofcfaa

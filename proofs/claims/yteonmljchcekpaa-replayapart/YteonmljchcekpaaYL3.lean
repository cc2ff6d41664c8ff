/- The walk of ReplayAll. -/
import Derived.Test.YteonmljchcekpaaYT
import Derived.Deep.RegionHeld3
namespace Go.Proofs.Yteonmljchcekpaa
open Go Go.RowKit Go.Maps Go.Sort
set_option maxRecDepth 20000
theorem tou_len {us : List Up} {ts : List Ky} (h : TouL us ts) (hl : us.length ≤ 1000) : ts.length ≤ 1000000 := by
  obtain ⟨ys, h1, h2, h3⟩ := nub_ex (us.map fun u => ky u.1)
  have hs : ts ⊆ ys := fun x hx => (h2 x).2 (by
    obtain ⟨u, hu, _, e⟩ := (h.2 x).1 hx
    exact List.mem_map.2 ⟨u, hu, e⟩)
  have := (sorted_nodup h.1).length_le_of_subset hs
  rw [List.length_map] at h3
  omega
/-- A store, and an update's box, apart from what lies below. -/
structure Pz (wF W : World) (b m : Nat) (f : Fn) (X : Nat) (u : Up) : Prop where
  st : St W b m 1000 f
  ub : Ub W X u
  bel : Below wF.heap.size wF W
theorem Pz.next {wF W W' w1 : World} {b m : Nat} {f : Fn} {X : Nat} {u : Up} (h : Pz wF W b m f X u) (hb : Below W'.heap.size W' w1) (e1 : W'.os = W.os) (e2 : W'.tape = W.tape) (e3 : W'.output = W.output) (e4 : W'.heap = W.heap) : Pz wF w1 b m f X u :=
  ⟨(h.st.same e4).below hb, h.ub.kept hb e4, Below.far hb h.bel e1 e2 e3 e4⟩
theorem Pz.c0 {wF W : World} {b m : Nat} {f : Fn} {X : Nat} {uk ut : ByteArray} {ux un : Int} (h : Pz wF W b m f X (uk, ux, un, ut)) : W.cell? ⟨X, 0, none⟩ = some (.string uk) := (Ub.c h.ub).1
theorem pz_new {wF W : World} {b m : Nat} {f : Fn} {u : Up} (h : St W b m 1000 f) (hb : Below wF.heap.size wF W) : Pz wF (W.alloc (.cells #[.string u.1, .int .i64 u.2.1, .int .i64 u.2.2.1, .string u.2.2.2] 42)) b m f W.heap.size u :=
  ⟨h.alloc _, new_at rfl, hb.alloc hb.size _⟩
set_option maxHeartbeats 8000000 in
theorem walkAll (a : Option Addr) (len cap : Nat) (us : List Up) (ar : Option Addr) (lr cr : Nat) (rs : List Rn) (hc : len ≤ cap) (hn : a = none → cap = 0) (w : World) (hu : IsUs w a len us) (hr : IsRs w ar lr rs) :
    Calls Try.prog 4 #[.slice a len cap, .slice ar lr cr] w fun e w' => e = .returned (.bool true) ∧ Below w.heap.size w w' := by
  by_cases hg : g8 us rs
  · have HG := fun w hu hr => Lib.hid (great8_yes a len cap us ar lr cr rs hg w hu hr)
    have HU := Lib.hid hu
    have HR := Lib.hid hr
    clear hg hu hr hc hn
    go_enter Try.func4, Try.ntmps4
    go_wp2_with fail
    refine (awake_yes _).mono ?_
    rintro e w1 ⟨rfl, hb⟩
    have HB1 := Lib.hid hb
    clear hb
    go_wp2_with fail
    refine (HG _ (isUs_below HU.out HB1.out) (isRs_below HR.out HB1.out)).out.mono ?_
    rintro e w2 ⟨rfl, hb⟩
    have HB2 := Lib.hid (Below.next HB1.out hb)
    clear hb HB1 HG
    go_wp2_with fail
    refine (awake_yes _).mono ?_
    rintro e w3 ⟨rfl, hb⟩
    have HB3 := Lib.hid (Below.next HB2.out hb)
    clear hb HB2
    go_wp2
    go_ret
    exact ⟨rfl, HB3.out⟩
  have HG := fun w hu hr => Lib.hid (great8_no a len cap us ar lr cr rs hg w hu hr)
  have hp := g8_pl hg
  have hrl := (g8_rs hg).1
  have hul := (g8_us hg).1
  have HU := Lib.hid hu
  have HR := Lib.hid hr
  rw [hr.size] at hrl
  rw [hu.size] at hul
  have hss0 := keyL_ex (flatR rs ++ us)
  obtain ⟨ss, hss, _⟩ := hss0
  obtain ⟨ts, hts⟩ := touL_ex (flatR rs)
  have htl : ts.length ≤ 1000000 := tou_len hts (by have := hp.len; rw [List.length_append] at this; omega)
  have HST := fun w hu hr => Lib.hid (state_any a len cap us ar lr cr rs hp w hu hr)
  have HLN := fun w hu hr => Lib.hid (lens_any a len cap us ar lr cr rs hp ss hss w hu hr)
  have HDL := fun w hu hr => Lib.hid (dlen_any a len cap us ar lr cr rs hp hc hn ss hss w hu hr)
  have HSL := fun b m w h => Lib.hid (len_any b m 1000 _ ss hss w h)
  have HTO := fun w hr => Lib.hid (touched_any ar lr cr rs hp.closed ts hts w hr)
  have HDT := fun w hr => Lib.hid (dtouched_any ar lr cr rs hp.closed ts hts w hr)
  have HFL := fun w hu hr => Lib.hid (flat_any a len cap us ar lr cr rs hp hc hn w hu hr)
  have HGT := fun key (hk : key.size ≤ 1000) b m w h => Lib.hid (get_any b m 1000 (stF (flatR rs ++ us)) key hk (gd_st _ hp.all _).2.2 w h)
  have HDR := fun key w hu hr => Lib.hid (dread_any key a len cap us ar lr cr rs hp hc hn w hu hr)
  have HSH : Hid (∀ u ∈ flatR rs ++ us, u.1.size ≤ 1000) := Lib.hid fun u hu => (hp.sh u hu).1
  have hpl := hp.len
  clear hp hc hn hss hts
  generalize stF (flatR rs ++ us) = f at *
  generalize ss.length = sl at *
  clear hg hu hr
  go_enter Try.func4, Try.ntmps4
  go_wp2_with fail
  refine (awake_yes _).mono ?_
  rintro e w1 ⟨rfl, hb⟩
  have HB1 := Lib.hid hb
  clear hb
  go_wp2_with fail
  refine (HG _ (isUs_below HU.out HB1.out) (isRs_below HR.out HB1.out)).out.mono ?_
  rintro e w2 ⟨rfl, hb⟩
  have HB2 := Lib.hid (Below.next HB1.out hb)
  clear hb HB1 HG
  go_wp2_with fail
  refine (HST _ (isUs_below HU.out HB2.out) (isRs_below HR.out HB2.out)).out.mono ?_
  rintro e w3 ⟨b, m, rfl, hm, hs, hb⟩
  have HB3 := Lib.hid (Below.next HB2.out hb)
  have HS3 := Lib.hid hs
  clear hs hb HB2 HST
  go_wp2_with fail
  refine (HLN _ (isUs_below HU.out HB3.out) (isRs_below HR.out HB3.out)).out.mono ?_
  rintro e w4 ⟨rfl, hb⟩
  have HB4 := Lib.hid (Below.next HB3.out hb)
  have HS4 := Lib.hid (HS3.out.below hb)
  clear hb HB3 HS3
  go_wp2_with fail
  refine (HDL _ (isUs_below HU.out HB4.out) (isRs_below HR.out HB4.out)).out.mono ?_
  rintro e w5 ⟨rfl, hb⟩
  have HB5 := Lib.hid (Below.next HB4.out hb)
  have HS5 := Lib.hid (HS4.out.below hb)
  clear hb HB4 HS4
  go_wp2_with fail
  refine (HSL b m _ HS5.out).out.mono ?_
  rintro e w5x ⟨rfl, rfl⟩
  go_wp2_with fail
  refine (HDL _ (isUs_below HU.out HB5.out) (isRs_below HR.out HB5.out)).out.mono ?_
  rintro e w6 ⟨rfl, hb⟩
  have HB6 := Lib.hid (Below.next HB5.out hb)
  have HS6 := Lib.hid (HS5.out.below hb)
  clear hb HB5 HS5
  go_wp2_with fail
  refine (HTO _ (isRs_below HR.out HB6.out)).out.mono ?_
  rintro e w7 ⟨a7, c7, rfl, ht, hb⟩
  have HB7 := Lib.hid (Below.next HB6.out hb)
  have HS7 := Lib.hid (HS6.out.below hb)
  have HT7 := Lib.hid ht
  clear ht
  clear hb HB6 HS6
  go_wp2_with fail
  refine (HDT _ (isRs_below HR.out HB7.out)).out.mono ?_
  rintro e w8 ⟨a8, c8, rfl, ht, hb⟩
  have HB8 := Lib.hid (Below.next HB7.out hb)
  have HS8 := Lib.hid (HS7.out.below hb)
  have HT8 := Lib.hid ht
  have HU8 := Lib.hid (isSs_below HT7.out hb)
  clear ht HT7
  clear hb HB7 HS7
  go_wp2_with fail
  refine (same_yes a7 a8 c7 c8 ts htl _ HU8.out HT8.out).mono ?_
  rintro e w9 ⟨rfl, hb⟩
  have HB9 := Lib.hid (Below.next HB8.out hb)
  have HS9 := Lib.hid (HS8.out.below hb)
  clear HU8 HT8
  clear hb HB8 HS8
  go_wp2_with fail
  refine (HFL _ (isUs_below HU.out HB9.out) (isRs_below HR.out HB9.out)).out.mono ?_
  rintro e w10 ⟨aF, cF, rfl, hi, hb⟩
  have HB10 := Lib.hid (Below.next HB9.out hb)
  have HS10 := Lib.hid (HS9.out.below hb)
  have HF := Lib.hid hi
  clear hi
  clear hb HB9 HS9
  obtain ⟨n, HN⟩ : ∃ n, Hid ((flatR rs ++ us).length = n) := ⟨_, Lib.hid rfl⟩
  rw [HN.out] at HF hpl ⊢
  clear HLN HDL HSL HTO HDT HFL
  go_wp2_with fail
  go_loopw [50] (fun v50 wr => ∃ k : Nat, k ≤ n ∧ v50 = .int .i64 k ∧ St wr b m 1000 f ∧ Below w10.heap.size w10 wr) (fun v50 _ => n - (intOf v50).toNat)
  case atStart => exact ⟨0, Nat.zero_le _, rfl, HS10.out, Below.refl _ _⟩
  case round =>
    obtain ⟨k, hk, rfl, hst, hbel⟩ := hrel
    by_cases hlt : k < n
    · obtain ⟨b2, off2, rfl, c0, c1, c2, c3⟩ := cells_of HF.out hbel hlt
      have hks := HSH.out _ (mem_getD (us := flatR rs ++ us) (k := k) (by have := HN.out; omega))
      have HPZ := fun u => Lib.hid (pz_new (u := u) hst hbel)
      clear hst hbel
      generalize (flatR rs ++ us).getD k up0 = u at *
      obtain ⟨uk, ux, un, ut⟩ := u
      simp only at c0 c1 c2 c3 hks
      have HG1 := HGT uk hks
      have HD1 := HDR uk
      have HP := HPZ (uk, ux, un, ut)
      clear HGT HDR HPZ
      generalize f (ky uk) = r at *
      obtain ⟨rk, rn, rt⟩ := r
      simp only [vv_eq] at HG1 HD1 HP
      go_wp2_with fail
      have d0 := HP.out.c0
      go_region_held3 (fun w' => w'.cell? ⟨wr.heap.size, 0, none⟩ = some (.string uk))
        (first | with_reducible assumption | exact d0)
        (first
          | (go_at_call 21
             refine (HG1 b m _ ?_).out.mono ?_
             · exact HP.out.st.same rfl
             rintro e w11 ⟨rfl, hb⟩
             have HP1 := Lib.hid (HP.out.next hb rfl rfl rfl rfl)
             have d0 := HP1.out.c0
             clear hb)
          | (go_at_call 12
             refine (HD1 _ (isUs_below HU.out (Below.next HB10.out HP1.out.bel)) (isRs_below HR.out (Below.next HB10.out HP1.out.bel))).out.mono ?_
             rintro e w12 ⟨rfl, hb⟩
             have HP2 := Lib.hid (HP1.out.next hb rfl rfl rfl rfl)
             have d0 := HP2.out.c0
             clear hb))
      go_wp2
      go_roundw
      case rel => exact ⟨k + 1, by omega, by go_num, HP2.out.st, HP2.out.bel⟩
      case measure => simp [intOf]; omega
    · obtain rfl : k = n := by omega
      have HBW := Lib.hid (Below.next HB10.out hbel)
      clear hst hbel
      go_wp2
      go_ret
      exact ⟨rfl, HBW.out⟩
end Go.Proofs.Yteonmljchcekpaa

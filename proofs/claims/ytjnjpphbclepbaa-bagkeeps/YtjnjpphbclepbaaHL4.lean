/- BagKeeps. -/
import Derived.Test.YtjnjpphbclepbaaHM
namespace Go.Proofs.Ytjnjpphbclepbaa
open Go Go.RowKit
set_option maxRecDepth 20000
theorem isAs_at2 {ws wr : World} {a : Option Addr} {len : Nat} {l : List Ac} {k : Nat} (h : IsAs ws a len l) (hb : Below ws.heap.size ws wr) (hk : k < len) : ∃ b off, a = some ⟨b, off, none⟩ ∧ A5 wr b (off + k * 5) (l.getD k ac0) ∧ Rp ws (l.getD k ac0) := by
  obtain ⟨b, off, e, h1, _⟩ := acells_of h hb hk
  exact ⟨b, off, e, h1, h.each k hk⟩
set_option maxHeartbeats 32000000 in
theorem walkKeeps (a : Option Addr) (len cap : Nat) (l : List Ac) (w : World) (hi : IsAs w a len l) :
    Calls Try.prog 4 #[.slice a len cap] w fun e w' => e = .returned (.bool true) ∧ Below w.heap.size w w' := by
  have HI := Lib.hid hi
  have HG := fun (w' : World) (h : Below w.heap.size w w') => Lib.hid (great_any a len cap l w' (isAs_below hi h))
  have HLEN0 := Lib.hid hi.size
  clear hi
  go_enter Try.func4, Try.ntmps4
  go_wp2_with fail
  refine (ck_new w).mono ?_
  rintro e w1 ⟨rfl, hk, hb, hsz⟩
  have HB1 := Lib.hid hb
  have HK1 := Lib.hid hk
  clear hk hb hsz
  go_wp2_with fail
  refine (awake_any w1).mono ?_
  rintro e w3 ⟨rfl, hb⟩
  have HB3 := Lib.hid (Below.next HB1.out hb)
  have HK3 := Lib.hid (HK1.out.next hb)
  clear hb HK1
  go_wp2_with fail
  refine (HG _ HB3.out).out.mono ?_
  rintro e w4 ⟨r, rfl, hb, hok⟩
  have HB4 := Lib.hid (Below.next HB3.out hb)
  have HK4 := Lib.hid (HK3.out.next hb)
  have HOK := Lib.hid hok
  clear hb hok HK3 HG HB1
  cases r with
  | true =>
    go_wp2_with fail
    refine (awake_any _).mono ?_
    rintro e w5 ⟨rfl, hb⟩
    have HB5 := Lib.hid (Below.next HB4.out hb)
    clear hb
    go_wp2
    go_ret
    exact ⟨rfl, HB5.out⟩
  | false =>
    have HOKK : Hid (okAs l) := Lib.hid (HOK.out rfl)
    have hl60 : len ≤ 60 := by have := HOKK.out.1; rw [HLEN0.out] at this; exact this
    have hmm := @run_makeMap Try.prog
    have hb5 : Below w4.heap.size w4 (w4.alloc (.map #[] 0)) := Joins.below_alloc1 _ _
    have HK5 := Lib.hid (HK4.out.next hb5)
    have HM5 := Lib.hid (km_new w4)
    have HB5 := Lib.hid (Below.next HB4.out hb5)
    have hmb : w.heap.size ≤ w4.heap.size := HB4.out.size
    clear hb5
    go_wp2_with fail
    generalize hw5 : w4.alloc (.map #[] 0) = w5 at *
    generalize w4.heap.size = mb at *
    clear hmm
    go_loopw [30] (fun v30 wr => ∃ (k : Nat) (lk : List Pk) (nk : Nat) (K : Pkt → Prop), k ≤ len ∧ v30 = .int .i64 k ∧ Ck w.heap.size wr w.heap.size lk ∧ Km wr mb nk K ∧ nk ≤ 20 * k ∧ (∀ p ∈ lk, K (pktOf p)) ∧ Below w.heap.size w wr) (fun v30 _ => len - (intOf v30).toNat)
    case atStart => exact ⟨0, [], 0, _, Nat.zero_le _, rfl, HK5.out, HM5.out, Nat.le_refl _, (fun p hp => by cases hp), HB5.out⟩
    case round =>
      obtain ⟨k, lk, nk, K, hk, rfl, hck, hkm, hnk, hcv, hbel⟩ := hrel
      have HNK : Hid (nk ≤ 20 * k ∧ k ≤ 60) := Lib.hid (by omega)
      have HCV := Lib.hid hcv
      clear hcv
      by_cases hlt : k < len
      · obtain ⟨gb, off, rfl, hc, hr⟩ := isAs_at2 HI.out hbel hlt
        have hox := HOKK.out.2 k (by rw [HLEN0.out]; exact hlt)
        obtain ⟨x, hx⟩ : ∃ x, l.getD k ac0 = x := ⟨_, rfl⟩
        rw [hx] at hc hr hox
        obtain ⟨kd, n, bit, m, pa, pl, pc, ps⟩ := x
        obtain ⟨c0, c1, c2, c3, c4⟩ := hc
        simp only at c0 c1 c2 c3 c4
        clear hx
        by_cases h1 : kd = 1
        · subst h1
          have HB0 : Hid (Below w.heap.size w (wr.alloc (.cells #[.int .i64 1, .int .i64 n, .int .i64 bit, .int .u32 (m : Int), .slice pa pl pc] 34))) := Lib.hid (hbel.alloc hbel.size _)
          have HK0 := Lib.hid (hck.next (Joins.below_alloc1 wr (.cells #[.int .i64 1, .int .i64 n, .int .i64 bit, .int .u32 (m : Int), .slice pa pl pc] 34)))
          have HM0 := Lib.hid (hkm.next (Joins.below_alloc1 wr (.cells #[.int .i64 1, .int .i64 n, .int .i64 bit, .int .u32 (m : Int), .slice pa pl pc] 34)))
          have HA0 : Hid ((wr.alloc (.cells #[.int .i64 1, .int .i64 n, .int .i64 bit, .int .u32 (m : Int), .slice pa pl pc] 34)).heap[wr.heap.size]? = some (.cells #[.int .i64 1, .int .i64 n, .int .i64 bit, .int .u32 (m : Int), .slice pa pl pc] 34 (0, 0))) := Lib.hid (new_at rfl)
          have HPS := Lib.hid hr.ps
          have HPC := Lib.hid (And.intro hr.hc hr.hn)
          have HPB := Lib.hid hr.pb
          have HOX := Lib.hid hox
          have HMB : Hid (w.heap.size ≤ mb) := Lib.hid hmb
          have hpl : pl ≤ 20 := hox.1
          simp only at HPS HPC HPB
          clear hck hkm hbel hr hox
          go_wp2_with fail
          generalize hw1g : wr.alloc (.cells #[.int .i64 1, .int .i64 n, .int .i64 bit, .int .u32 (m : Int), .slice pa pl pc] 34) = w1 at *
          have HAX := HA0
          generalize wr.heap.size = ga at *
          go_loopw [41] (fun v41 wx => ∃ j : Nat, j ≤ pl ∧ v41 = .int .i64 j ∧ Below w.heap.size w wx ∧ Ck w.heap.size wx w.heap.size lk ∧ Km wx mb (nk + j) (fun q => K q ∨ q ∈ ps.take j) ∧ wx.heap[ga]? = some (.cells #[.int .i64 1, .int .i64 n, .int .i64 bit, .int .u32 (m : Int), .slice pa pl pc] 34 (0, 0))) (fun v41 _ => pl - (intOf v41).toNat)
          case atStart => exact ⟨0, Nat.zero_le _, rfl, HB0.out, HK0.out, HM0.out.weak (fun p hp => by rcases hp with hp | hp; exact hp; simp at hp) (by omega), HA0.out⟩
          case round =>
            obtain ⟨j, hj, rfl, hbx, hkx, hmx, hax⟩ := hrel
            by_cases hjl : j < pl
            · obtain ⟨g, o2, rfl, _, hf⟩ := (psAt_below HPS.out hbx).lies (by omega)
              obtain ⟨y0, y1, y2⟩ := hf j hjl
              have hjp : j < ps.length := by have := HPS.out.size; omega
              have hmem : ps.getD j pk0 ∈ ps := getD_mem hjp
              obtain ⟨⟨pf, pt, pd⟩, hp⟩ : ∃ p, ps.getD j pk0 = p := ⟨_, rfl⟩
              rw [hp] at y0 y1 y2 hmem
              simp only at y0 y1 y2
              have hB1 := Joins.below_alloc1 wr (.cells #[.int .i64 pf, .int .i64 pt, .string pd] 39)
              have hm1 := hmx.next hB1
              obtain ⟨w9, hrun, hm9, hg9⟩ := hm1.put (by have := HNK.out; omega) (pf, pt, pd) (HPB.out _ hmem) (Nat.le_trans (HOX.out.2 _ hmem) (by decide))
              have hk9 := (hkx.next hB1).mapped hg9 hm1.obj
              have ha9 : w9.heap[ga]? = some (.cells #[.int .i64 1, .int .i64 n, .int .i64 bit, .int .u32 (m : Int), .slice (some ⟨g, o2, none⟩) pl pc] 34 (0, 0)) := by
                have h0 := kept_at hax hB1
                refine (hg9.block ga (Array.getElem?_eq_some_iff.1 h0).1 (fun e => ?_)).trans h0
                cases e
                obtain ⟨es, clock, ho⟩ := hm1.obj
                rw [ho] at h0
                cases h0
              have hb9 : Below w.heap.size w w9 := (hbx.alloc hbx.size _).grown hg9 (hbx.alloc hbx.size _).size (fun q hq => by cases hq; exact HMB.out)
              have hm9' : Km w9 mb (nk + (j + 1)) (fun q => K q ∨ q ∈ ps.take (j + 1)) := hm9.weak (fun q hq => by
                rcases hq with hq | hq
                · exact .inl (.inl hq)
                · rw [List.take_add_one] at hq
                  rcases List.mem_append.1 hq with hq | hq
                  · exact .inl (.inr hq)
                  · refine .inr ?_
                    rw [← hp]
                    simpa [List.getD_eq_getElem?_getD, hjp] using hq) (by omega)
              unfold pv at hrun
              simp only at hrun
              have HK9 := Lib.hid hk9
              have HA9 := Lib.hid ha9
              have HB9 := Lib.hid hb9
              have HM9 := Lib.hid hm9'
              clear hf hbx hkx hmx hax hmem hp hm1 hm9 hg9 hk9 ha9 hb9 hm9' hB1
              go_wp2
              go_roundw
              case rel => exact ⟨j + 1, by omega, by go_num, HB9.out, HK9.out, HM9.out, HA9.out⟩
              case measure => simp [intOf]; omega
            · obtain rfl : j = pl := by omega
              have a4 := cell_at hax 4 (.slice pa j pc) rfl
              have a4' : (wr.alloc (.cells #[] 39)).cell? ⟨ga, 4, none⟩ = some (.slice pa j pc) := cell_at (old_at hax) 4 (.slice pa j pc) rfl
              have HKX := Lib.hid hkx
              have HBX := Lib.hid hbx
              have HMX : Hid (Km wr mb (nk + j) (fun q => K q ∨ q ∈ ps)) := Lib.hid (hmx.weak (fun q hq => by
                rcases hq with hq | hq
                · exact .inl hq
                · rw [List.take_of_length_le (by have := HPS.out.size; omega)]; exact .inr hq) (Nat.le_refl _))
              have HPX := Lib.hid (psAt_below HPS.out hbx)
              clear hbx hkx hmx hax HA0 HAX
              go_wp2_with (at_builtin; refine wpList_appP0 rfl (.tmp 49) (.tmp 51) rfl rfl pa j pc rfl ps HPX.out HPC.out.1 HPC.out.2 (by omega) ?_)
              intro a7 c7 w7 hr7 hb7
              have HK7 := Lib.hid (HKX.out.next hb7)
              have HM7 := Lib.hid (HMX.out.next hb7)
              have HB7 := Lib.hid (Below.next HBX.out hb7)
              have HR7 := Lib.hid hr7
              clear hr7 hb7 a4 a4'
              go_wp2_with fail
              refine (ck_add a7 j c7 ps HK7.out (HR7.out.isP HPS.out.size.symm).1 (HR7.out.isP HPS.out.size.symm).2.1 (fun g off e => by
                subst e
                obtain ⟨cur, hc⟩ := HR7.out.typ g rfl
                exact ⟨_, _, hc⟩) (fun p hp => Nat.le_trans (HOX.out.2 p hp) (by decide)) (by omega)).mono ?_
              rintro e w8 ⟨rfl, hk, hw⟩
              obtain ⟨l2, hl2⟩ : ∃ l2, addL lk ps = l2 := ⟨_, rfl⟩
              rw [hl2] at hk
              obtain ⟨KK, hKK⟩ : ∃ KK : Pkt → Prop, (fun q => K q ∨ q ∈ ps) = KK := ⟨_, rfl⟩
              have HKT := Lib.hid hk
              have HMT := Lib.hid (hKK ▸ HM7.out.bkw hw)
              have HBT := Lib.hid (HB7.out.trans (hw.below HB7.out.size))
              have HNT : Hid (nk + j ≤ 20 * (k + 1)) := Lib.hid (by have := HNK.out; omega)
              have HCT : Hid (∀ p ∈ l2, KK (pktOf p)) := Lib.hid (by
                rw [← hl2, ← hKK]
                intro p hp
                rcases List.mem_append.1 hp with hp | hp
                · exact .inl (HCV.out p hp)
                · obtain ⟨q, hq, rfl⟩ := List.mem_map.1 hp
                  exact .inr (List.mem_of_mem_take hq))
              clear hk hw hl2 hKK
              have HALL := Lib.hid (all_any _ HKT.out)
              have HOL : Hid (l2.length ≤ 4096) := Lib.hid HKT.out.ok.len
              obtain ⟨nn, hnn⟩ : ∃ nn, l2.length = nn := ⟨_, rfl⟩
              have HNN : Hid (nn = (l2.map pktOf).length) := Lib.hid (by rw [List.length_map]; exact hnn.symm)
              rw [hnn] at HALL HOL
              clear hnn
              go_wp2_with fail
              refine HALL.out.mono ?_
              rintro e z1 ⟨a3, c3, rfl, hr, hb⟩
              have HKZ := Lib.hid (HKT.out.next hb)
              have HMZ := Lib.hid (HMT.out.next hb)
              have HBZ := Lib.hid (Below.next HBT.out hb)
              have HRZ := Lib.hid (hr.isP HNN.out).1
              have hn4 : nn ≤ 4096 := HOL.out
              have HZZ : Hid (Below z1.heap.size z1 z1) := Lib.hid (Below.refl _ _)
              clear hr hb HKT HMT HBT HALL
              go_wp2_with fail
              go_loopw [92] (fun v92 wx => ∃ j : Nat, j ≤ nn ∧ v92 = .int .i64 j ∧ Below z1.heap.size z1 wx) (fun v92 _ => nn - (intOf v92).toNat)
              case atStart => exact ⟨0, Nat.zero_le _, rfl, HZZ.out⟩
              case round =>
                obtain ⟨j, hj, rfl, hbz⟩ := hrel
                by_cases hjl : j < nn
                · obtain ⟨g, o2, rfl, _, hf⟩ := (psAt_below HRZ.out hbz).lies (by omega)
                  obtain ⟨y0, y1, y2⟩ := hf j hjl
                  have hmem : (l2.map pktOf).getD j pk0 ∈ l2.map pktOf := getD_mem (by rw [← HNN.out]; exact hjl)
                  obtain ⟨⟨pf, pt, pd⟩, hp⟩ : ∃ p, (l2.map pktOf).getD j pk0 = p := ⟨_, rfl⟩
                  rw [hp] at y0 y1 y2 hmem
                  simp only at y0 y1 y2
                  obtain ⟨q0, hq0, hq1⟩ := List.mem_map.1 hmem
                  have hK : KK (pf, pt, pd) := hq1 ▸ HCT.out q0 hq0
                  have hl := ((HMZ.out.next hbz).next (Joins.below_alloc1 wr (.cells #[.int .i64 pf, .int .i64 pt, .string pd] 39))).look hK
                  unfold pv at hl
                  simp only at hl
                  have HBX := Lib.hid (hbz.alloc hbz.size (.cells #[.int .i64 pf, .int .i64 pt, .string pd] 39))
                  clear hf hbz hp hmem hq0 hq1 hK
                  go_wp2
                  go_roundw
                  case rel => exact ⟨j + 1, by omega, by go_num, HBX.out⟩
                  case measure => simp [intOf]; omega
                · obtain rfl : j = nn := by omega
                  have HBX := Lib.hid (Below.next HBZ.out hbz)
                  have HKX := Lib.hid (HKZ.out.next hbz)
                  have HMX := Lib.hid (HMZ.out.next hbz)
                  clear hbz
                  go_wp2
                  go_roundw
                  case rel => exact ⟨k + 1, l2, _, KK, by omega, by go_num, HKX.out, HMX.out, HNT.out, HCT.out, HBX.out⟩
                  case measure => simp [intOf]; omega
        by_cases h2 : kd = 2
        · subst h2
          have HB0 : Hid (Below w.heap.size w (wr.alloc (.cells #[.int .i64 2, .int .i64 n, .int .i64 bit, .int .u32 (m : Int), .slice pa pl pc] 34))) := Lib.hid (hbel.alloc hbel.size _)
          have HK0 := Lib.hid (hck.next (Joins.below_alloc1 wr (.cells #[.int .i64 2, .int .i64 n, .int .i64 bit, .int .u32 (m : Int), .slice pa pl pc] 34)))
          have HM0 := Lib.hid (hkm.next (Joins.below_alloc1 wr (.cells #[.int .i64 2, .int .i64 n, .int .i64 bit, .int .u32 (m : Int), .slice pa pl pc] 34)))
          have HA0 : Hid ((wr.alloc (.cells #[.int .i64 2, .int .i64 n, .int .i64 bit, .int .u32 (m : Int), .slice pa pl pc] 34)).heap[wr.heap.size]? = some (.cells #[.int .i64 2, .int .i64 n, .int .i64 bit, .int .u32 (m : Int), .slice pa pl pc] 34 (0, 0))) := Lib.hid (new_at rfl)
          clear hck hkm hbel hr hox
          have HLE : Hid (lk.length ≤ 4096) := Lib.hid HK0.out.ok.len
          have HL := fun (w1 : World) (h : Ck w.heap.size w1 w.heap.size lk) => Lib.hid (ck_len h)
          have HT := fun (w1 : World) (h : Ck w.heap.size w1 w.heap.size lk) => Lib.hid (ck_take n h)
          have HCT : Hid (∀ p ∈ tkL lk n, K (pktOf p)) := Lib.hid fun p hp => HCV.out p (by
            unfold tkL at hp
            split at hp
            · exact List.mem_of_mem_eraseIdx hp
            · exact hp)
          obtain ⟨⟨pf, pt, pd⟩, hp⟩ : ∃ p, atP lk n = p := ⟨_, rfl⟩
          have hlen : inb lk n → (tkL lk n).length = lk.length - 1 ∧ 1 ≤ lk.length := fun h => by
            obtain ⟨kk, e, hkk, _⟩ := inb_nat h
            unfold tkL
            rw [if_pos h, List.length_eraseIdx, if_pos (by have := h.1; have := h.2; omega)]
            omega
          obtain ⟨ok, hok⟩ : ∃ ok, decide (inb lk n) = ok := ⟨_, rfl⟩
          have HLEN : Hid (ok = true → ((tkL lk n).length : Int) = (lk.length : Int) - 1) := Lib.hid fun h => by
            rw [h] at hok
            have := hlen (of_decide_eq_true hok)
            omega
          obtain ⟨l2, hl2⟩ : ∃ l2, tkL lk n = l2 := ⟨_, rfl⟩
          rw [hp, hok] at HT
          rw [hl2] at HT HCT HLEN
          have HL2 := fun (w1 : World) (h : Ck w.heap.size w1 w.heap.size l2) => Lib.hid (ck_len h)
          unfold pv at HT
          simp only at HT
          clear hp hok hl2 hlen
          have a1 := cell_at HA0.out 1 (.int .i64 n) rfl
          have ln : (lk.length : Int) ≤ 4096 := by have := HLE.out; omega
          have ln0 : 0 ≤ (lk.length : Int) := by omega
          generalize (lk.length : Int) = L at *
          go_wp2_with fail
          refine (HL _ HK0.out).out.mono ?_
          rintro e y1 ⟨rfl, hy⟩
          obtain rfl := hy.symm
          go_wp2_with fail
          refine (HT _ HK0.out).out.mono ?_
          rintro e y2 ⟨rfl, hk, hw⟩
          have HBY := Lib.hid ((HB0.out.trans (hw.below HB0.out.size)).alloc (Nat.le_trans HB0.out.size hw.size) (.cells #[.int .i64 pf, .int .i64 pt, .string pd] 39))
          have HKY := Lib.hid (hk.next (Joins.below_alloc1 y2 (.cells #[.int .i64 pf, .int .i64 pt, .string pd] 39)))
          have HMY := Lib.hid ((HM0.out.bkw hw).next (Joins.below_alloc1 y2 (.cells #[.int .i64 pf, .int .i64 pt, .string pd] 39)))
          have HNT : Hid (nk ≤ 20 * (k + 1)) := Lib.hid (by have := HNK.out; omega)
          clear hk hw a1
          cases ok with
          | false =>
            have HKT := HKY
            have HMT := HMY
            have HBT := HBY
            have HALL := Lib.hid (all_any _ HKT.out)
            have HOL : Hid (l2.length ≤ 4096) := Lib.hid HKT.out.ok.len
            obtain ⟨nn, hnn⟩ : ∃ nn, l2.length = nn := ⟨_, rfl⟩
            have HNN : Hid (nn = (l2.map pktOf).length) := Lib.hid (by rw [List.length_map]; exact hnn.symm)
            rw [hnn] at HALL HOL
            clear hnn
            go_wp2_with fail
            refine HALL.out.mono ?_
            rintro e z1 ⟨a3, c3, rfl, hr, hb⟩
            have HKZ := Lib.hid (HKT.out.next hb)
            have HMZ := Lib.hid (HMT.out.next hb)
            have HBZ := Lib.hid (Below.next HBT.out hb)
            have HRZ := Lib.hid (hr.isP HNN.out).1
            have hn4 : nn ≤ 4096 := HOL.out
            have HZZ : Hid (Below z1.heap.size z1 z1) := Lib.hid (Below.refl _ _)
            clear hr hb HKT HMT HBT HALL
            go_wp2_with fail
            go_loopw [92] (fun v92 wx => ∃ j : Nat, j ≤ nn ∧ v92 = .int .i64 j ∧ Below z1.heap.size z1 wx) (fun v92 _ => nn - (intOf v92).toNat)
            case atStart => exact ⟨0, Nat.zero_le _, rfl, HZZ.out⟩
            case round =>
              obtain ⟨j, hj, rfl, hbz⟩ := hrel
              by_cases hjl : j < nn
              · obtain ⟨g, o2, rfl, _, hf⟩ := (psAt_below HRZ.out hbz).lies (by omega)
                obtain ⟨y0, y1, y2⟩ := hf j hjl
                have hmem : (l2.map pktOf).getD j pk0 ∈ l2.map pktOf := getD_mem (by rw [← HNN.out]; exact hjl)
                obtain ⟨⟨pf, pt, pd⟩, hp⟩ : ∃ p, (l2.map pktOf).getD j pk0 = p := ⟨_, rfl⟩
                rw [hp] at y0 y1 y2 hmem
                simp only at y0 y1 y2
                obtain ⟨q0, hq0, hq1⟩ := List.mem_map.1 hmem
                have hK : K (pf, pt, pd) := hq1 ▸ HCT.out q0 hq0
                have hl := ((HMZ.out.next hbz).next (Joins.below_alloc1 wr (.cells #[.int .i64 pf, .int .i64 pt, .string pd] 39))).look hK
                unfold pv at hl
                simp only at hl
                have HBX := Lib.hid (hbz.alloc hbz.size (.cells #[.int .i64 pf, .int .i64 pt, .string pd] 39))
                clear hf hbz hp hmem hq0 hq1 hK
                go_wp2
                go_roundw
                case rel => exact ⟨j + 1, by omega, by go_num, HBX.out⟩
                case measure => simp [intOf]; omega
              · obtain rfl : j = nn := by omega
                have HBX := Lib.hid (Below.next HBZ.out hbz)
                have HKX := Lib.hid (HKZ.out.next hbz)
                have HMX := Lib.hid (HMZ.out.next hbz)
                clear hbz
                go_wp2
                go_roundw
                case rel => exact ⟨k + 1, l2, _, K, by omega, by go_num, HKX.out, HMX.out, HNT.out, HCT.out, HBX.out⟩
                case measure => simp [intOf]; omega
          | true =>
            have hlq : (l2.length : Int) = L - 1 := HLEN.out rfl
            have HLL := HL2 _ HKY.out
            rw [hlq] at HLL
            clear hlq
            go_wp2_with fail
            refine HLL.out.mono ?_
            rintro e y3 ⟨rfl, hy⟩
            obtain rfl := hy.symm
            have HKT := HKY
            have HMT := HMY
            have HBT := HBY
            clear HLL
            have HALL := Lib.hid (all_any _ HKT.out)
            have HOL : Hid (l2.length ≤ 4096) := Lib.hid HKT.out.ok.len
            obtain ⟨nn, hnn⟩ : ∃ nn, l2.length = nn := ⟨_, rfl⟩
            have HNN : Hid (nn = (l2.map pktOf).length) := Lib.hid (by rw [List.length_map]; exact hnn.symm)
            rw [hnn] at HALL HOL
            clear hnn
            go_wp2_with fail
            refine HALL.out.mono ?_
            rintro e z1 ⟨a3, c3, rfl, hr, hb⟩
            have HKZ := Lib.hid (HKT.out.next hb)
            have HMZ := Lib.hid (HMT.out.next hb)
            have HBZ := Lib.hid (Below.next HBT.out hb)
            have HRZ := Lib.hid (hr.isP HNN.out).1
            have hn4 : nn ≤ 4096 := HOL.out
            have HZZ : Hid (Below z1.heap.size z1 z1) := Lib.hid (Below.refl _ _)
            clear hr hb HKT HMT HBT HALL
            go_wp2_with fail
            go_loopw [92] (fun v92 wx => ∃ j : Nat, j ≤ nn ∧ v92 = .int .i64 j ∧ Below z1.heap.size z1 wx) (fun v92 _ => nn - (intOf v92).toNat)
            case atStart => exact ⟨0, Nat.zero_le _, rfl, HZZ.out⟩
            case round =>
              obtain ⟨j, hj, rfl, hbz⟩ := hrel
              by_cases hjl : j < nn
              · obtain ⟨g, o2, rfl, _, hf⟩ := (psAt_below HRZ.out hbz).lies (by omega)
                obtain ⟨y0, y1, y2⟩ := hf j hjl
                have hmem : (l2.map pktOf).getD j pk0 ∈ l2.map pktOf := getD_mem (by rw [← HNN.out]; exact hjl)
                obtain ⟨⟨pf, pt, pd⟩, hp⟩ : ∃ p, (l2.map pktOf).getD j pk0 = p := ⟨_, rfl⟩
                rw [hp] at y0 y1 y2 hmem
                simp only at y0 y1 y2
                obtain ⟨q0, hq0, hq1⟩ := List.mem_map.1 hmem
                have hK : K (pf, pt, pd) := hq1 ▸ HCT.out q0 hq0
                have hl := ((HMZ.out.next hbz).next (Joins.below_alloc1 wr (.cells #[.int .i64 pf, .int .i64 pt, .string pd] 39))).look hK
                unfold pv at hl
                simp only at hl
                have HBX := Lib.hid (hbz.alloc hbz.size (.cells #[.int .i64 pf, .int .i64 pt, .string pd] 39))
                clear hf hbz hp hmem hq0 hq1 hK
                go_wp2
                go_roundw
                case rel => exact ⟨j + 1, by omega, by go_num, HBX.out⟩
                case measure => simp [intOf]; omega
              · obtain rfl : j = nn := by omega
                have HBX := Lib.hid (Below.next HBZ.out hbz)
                have HKX := Lib.hid (HKZ.out.next hbz)
                have HMX := Lib.hid (HMZ.out.next hbz)
                clear hbz
                go_wp2
                go_roundw
                case rel => exact ⟨k + 1, l2, _, K, by omega, by go_num, HKX.out, HMX.out, HNT.out, HCT.out, HBX.out⟩
                case measure => simp [intOf]; omega
        by_cases h3 : kd = 3
        · subst h3
          have HB0 : Hid (Below w.heap.size w (wr.alloc (.cells #[.int .i64 3, .int .i64 n, .int .i64 bit, .int .u32 (m : Int), .slice pa pl pc] 34))) := Lib.hid (hbel.alloc hbel.size _)
          have HK0 := Lib.hid (hck.next (Joins.below_alloc1 wr (.cells #[.int .i64 3, .int .i64 n, .int .i64 bit, .int .u32 (m : Int), .slice pa pl pc] 34)))
          have HM0 := Lib.hid (hkm.next (Joins.below_alloc1 wr (.cells #[.int .i64 3, .int .i64 n, .int .i64 bit, .int .u32 (m : Int), .slice pa pl pc] 34)))
          have HA0 : Hid ((wr.alloc (.cells #[.int .i64 3, .int .i64 n, .int .i64 bit, .int .u32 (m : Int), .slice pa pl pc] 34)).heap[wr.heap.size]? = some (.cells #[.int .i64 3, .int .i64 n, .int .i64 bit, .int .u32 (m : Int), .slice pa pl pc] 34 (0, 0))) := Lib.hid (new_at rfl)
          clear hck hkm hbel hr hox
          have HLE : Hid (lk.length ≤ 4096) := Lib.hid HK0.out.ok.len
          have HL := fun (w1 : World) (h : Ck w.heap.size w1 w.heap.size lk) => Lib.hid (ck_len h)
          have HT := fun (w1 : World) (h : Ck w.heap.size w1 w.heap.size lk) => Lib.hid (ck_twice n h)
          have HCT : Hid (∀ p ∈ twL lk n, K (pktOf p)) := Lib.hid fun p hp => by
            unfold twL at hp
            split at hp
            · rename_i h0
              rcases List.mem_append.1 hp with hp | hp
              · exact HCV.out p hp
              · obtain rfl : p = _ := List.mem_singleton.1 hp
                refine HCV.out _ (getD_mem ?_)
                unfold twE at h0
                split at h0
                · rename_i hi
                  have := hi.1; have := hi.2; omega
                · cases h0
            · exact HCV.out p hp
          have HLEN : Hid (twE lk n = 0 → ((twL lk n).length : Int) = (lk.length : Int) + 1) := Lib.hid fun h => by
            unfold twL
            rw [if_pos h, List.length_append, List.length_singleton]
            omega
          obtain ⟨er, her⟩ : ∃ er, twE lk n = er := ⟨_, rfl⟩
          obtain ⟨l2, hl2⟩ : ∃ l2, twL lk n = l2 := ⟨_, rfl⟩
          rw [her, hl2] at HT
          rw [her, hl2] at HLEN
          rw [hl2] at HCT
          have HL2 := fun (w1 : World) (h : Ck w.heap.size w1 w.heap.size l2) => Lib.hid (ck_len h)
          clear her hl2
          have a1 := cell_at HA0.out 1 (.int .i64 n) rfl
          have ln : (lk.length : Int) ≤ 4096 := by have := HLE.out; omega
          have ln0 : 0 ≤ (lk.length : Int) := by omega
          generalize (lk.length : Int) = L at *
          have HNT : Hid (nk ≤ 20 * (k + 1)) := Lib.hid (by have := HNK.out; omega)
          by_cases he : er = 0
          · subst he
            have hlq : (l2.length : Int) = L + 1 := HLEN.out rfl
            have HLL := fun (w1 : World) (h : Ck w.heap.size w1 w.heap.size l2) => HL2 w1 h
            simp only [hlq] at HLL
            clear hlq
            go_wp2_with fail
            refine (HL _ HK0.out).out.mono ?_
            rintro e y1 ⟨rfl, hy⟩
            obtain rfl := hy.symm
            go_wp2_with fail
            refine (HT _ HK0.out).out.mono ?_
            rintro e y2 ⟨rfl, hk, hw⟩
            have HKT := Lib.hid hk
            have HMT := Lib.hid (HM0.out.bkw hw)
            have HBT := Lib.hid (HB0.out.trans (hw.below HB0.out.size))
            clear hk hw a1
            go_wp2_with fail
            refine (HLL _ HKT.out).out.mono ?_
            rintro e y3 ⟨rfl, hy⟩
            obtain rfl := hy.symm
            have HALL := Lib.hid (all_any _ HKT.out)
            have HOL : Hid (l2.length ≤ 4096) := Lib.hid HKT.out.ok.len
            obtain ⟨nn, hnn⟩ : ∃ nn, l2.length = nn := ⟨_, rfl⟩
            have HNN : Hid (nn = (l2.map pktOf).length) := Lib.hid (by rw [List.length_map]; exact hnn.symm)
            rw [hnn] at HALL HOL
            clear hnn
            go_wp2_with fail
            refine HALL.out.mono ?_
            rintro e z1 ⟨a3, c3, rfl, hr, hb⟩
            have HKZ := Lib.hid (HKT.out.next hb)
            have HMZ := Lib.hid (HMT.out.next hb)
            have HBZ := Lib.hid (Below.next HBT.out hb)
            have HRZ := Lib.hid (hr.isP HNN.out).1
            have hn4 : nn ≤ 4096 := HOL.out
            have HZZ : Hid (Below z1.heap.size z1 z1) := Lib.hid (Below.refl _ _)
            clear hr hb HKT HMT HBT HALL
            go_wp2_with fail
            go_loopw [92] (fun v92 wx => ∃ j : Nat, j ≤ nn ∧ v92 = .int .i64 j ∧ Below z1.heap.size z1 wx) (fun v92 _ => nn - (intOf v92).toNat)
            case atStart => exact ⟨0, Nat.zero_le _, rfl, HZZ.out⟩
            case round =>
              obtain ⟨j, hj, rfl, hbz⟩ := hrel
              by_cases hjl : j < nn
              · obtain ⟨g, o2, rfl, _, hf⟩ := (psAt_below HRZ.out hbz).lies (by omega)
                obtain ⟨y0, y1, y2⟩ := hf j hjl
                have hmem : (l2.map pktOf).getD j pk0 ∈ l2.map pktOf := getD_mem (by rw [← HNN.out]; exact hjl)
                obtain ⟨⟨pf, pt, pd⟩, hp⟩ : ∃ p, (l2.map pktOf).getD j pk0 = p := ⟨_, rfl⟩
                rw [hp] at y0 y1 y2 hmem
                simp only at y0 y1 y2
                obtain ⟨q0, hq0, hq1⟩ := List.mem_map.1 hmem
                have hK : K (pf, pt, pd) := hq1 ▸ HCT.out q0 hq0
                have hl := ((HMZ.out.next hbz).next (Joins.below_alloc1 wr (.cells #[.int .i64 pf, .int .i64 pt, .string pd] 39))).look hK
                unfold pv at hl
                simp only at hl
                have HBX := Lib.hid (hbz.alloc hbz.size (.cells #[.int .i64 pf, .int .i64 pt, .string pd] 39))
                clear hf hbz hp hmem hq0 hq1 hK
                go_wp2
                go_roundw
                case rel => exact ⟨j + 1, by omega, by go_num, HBX.out⟩
                case measure => simp [intOf]; omega
              · obtain rfl : j = nn := by omega
                have HBX := Lib.hid (Below.next HBZ.out hbz)
                have HKX := Lib.hid (HKZ.out.next hbz)
                have HMX := Lib.hid (HMZ.out.next hbz)
                clear hbz
                go_wp2
                go_roundw
                case rel => exact ⟨k + 1, l2, _, K, by omega, by go_num, HKX.out, HMX.out, HNT.out, HCT.out, HBX.out⟩
                case measure => simp [intOf]; omega
          · have q0 : (er == 0) = false := beq_false_of_ne he
            go_wp2_with fail
            refine (HL _ HK0.out).out.mono ?_
            rintro e y1 ⟨rfl, hy⟩
            obtain rfl := hy.symm
            go_wp2_with fail
            refine (HT _ HK0.out).out.mono ?_
            rintro e y2 ⟨rfl, hk, hw⟩
            have HKT := Lib.hid hk
            have HMT := Lib.hid (HM0.out.bkw hw)
            have HBT := Lib.hid (HB0.out.trans (hw.below HB0.out.size))
            clear hk hw a1
            have HALL := Lib.hid (all_any _ HKT.out)
            have HOL : Hid (l2.length ≤ 4096) := Lib.hid HKT.out.ok.len
            obtain ⟨nn, hnn⟩ : ∃ nn, l2.length = nn := ⟨_, rfl⟩
            have HNN : Hid (nn = (l2.map pktOf).length) := Lib.hid (by rw [List.length_map]; exact hnn.symm)
            rw [hnn] at HALL HOL
            clear hnn
            go_wp2_with fail
            refine HALL.out.mono ?_
            rintro e z1 ⟨a3, c3, rfl, hr, hb⟩
            have HKZ := Lib.hid (HKT.out.next hb)
            have HMZ := Lib.hid (HMT.out.next hb)
            have HBZ := Lib.hid (Below.next HBT.out hb)
            have HRZ := Lib.hid (hr.isP HNN.out).1
            have hn4 : nn ≤ 4096 := HOL.out
            have HZZ : Hid (Below z1.heap.size z1 z1) := Lib.hid (Below.refl _ _)
            clear hr hb HKT HMT HBT HALL
            go_wp2_with fail
            go_loopw [92] (fun v92 wx => ∃ j : Nat, j ≤ nn ∧ v92 = .int .i64 j ∧ Below z1.heap.size z1 wx) (fun v92 _ => nn - (intOf v92).toNat)
            case atStart => exact ⟨0, Nat.zero_le _, rfl, HZZ.out⟩
            case round =>
              obtain ⟨j, hj, rfl, hbz⟩ := hrel
              by_cases hjl : j < nn
              · obtain ⟨g, o2, rfl, _, hf⟩ := (psAt_below HRZ.out hbz).lies (by omega)
                obtain ⟨y0, y1, y2⟩ := hf j hjl
                have hmem : (l2.map pktOf).getD j pk0 ∈ l2.map pktOf := getD_mem (by rw [← HNN.out]; exact hjl)
                obtain ⟨⟨pf, pt, pd⟩, hp⟩ : ∃ p, (l2.map pktOf).getD j pk0 = p := ⟨_, rfl⟩
                rw [hp] at y0 y1 y2 hmem
                simp only at y0 y1 y2
                obtain ⟨q0, hq0, hq1⟩ := List.mem_map.1 hmem
                have hK : K (pf, pt, pd) := hq1 ▸ HCT.out q0 hq0
                have hl := ((HMZ.out.next hbz).next (Joins.below_alloc1 wr (.cells #[.int .i64 pf, .int .i64 pt, .string pd] 39))).look hK
                unfold pv at hl
                simp only at hl
                have HBX := Lib.hid (hbz.alloc hbz.size (.cells #[.int .i64 pf, .int .i64 pt, .string pd] 39))
                clear hf hbz hp hmem hq0 hq1 hK
                go_wp2
                go_roundw
                case rel => exact ⟨j + 1, by omega, by go_num, HBX.out⟩
                case measure => simp [intOf]; omega
              · obtain rfl : j = nn := by omega
                have HBX := Lib.hid (Below.next HBZ.out hbz)
                have HKX := Lib.hid (HKZ.out.next hbz)
                have HMX := Lib.hid (HMZ.out.next hbz)
                clear hbz
                go_wp2
                go_roundw
                case rel => exact ⟨k + 1, l2, _, K, by omega, by go_num, HKX.out, HMX.out, HNT.out, HCT.out, HBX.out⟩
                case measure => simp [intOf]; omega
        have q1 : (kd == 1) = false := beq_false_of_ne h1
        have q2 : (kd == 2) = false := beq_false_of_ne h2
        have q3 : (kd == 3) = false := beq_false_of_ne h3
        have HBT : Hid (Below w.heap.size w (wr.alloc (.cells #[.int .i64 kd, .int .i64 n, .int .i64 bit, .int .u32 (m : Int), .slice pa pl pc] 34))) := Lib.hid (hbel.alloc hbel.size _)
        have HKT := Lib.hid (hck.next (Joins.below_alloc1 wr (.cells #[.int .i64 kd, .int .i64 n, .int .i64 bit, .int .u32 (m : Int), .slice pa pl pc] 34)))
        have HMT := Lib.hid (hkm.next (Joins.below_alloc1 wr (.cells #[.int .i64 kd, .int .i64 n, .int .i64 bit, .int .u32 (m : Int), .slice pa pl pc] 34)))
        have HNT : Hid (nk ≤ 20 * (k + 1)) := Lib.hid (by have := HNK.out; omega)
        have HCT := HCV
        clear hck hkm hbel hr hox h1 h2 h3
        have HALL := Lib.hid (all_any _ HKT.out)
        have HOL : Hid (lk.length ≤ 4096) := Lib.hid HKT.out.ok.len
        obtain ⟨nn, hnn⟩ : ∃ nn, lk.length = nn := ⟨_, rfl⟩
        have HNN : Hid (nn = (lk.map pktOf).length) := Lib.hid (by rw [List.length_map]; exact hnn.symm)
        rw [hnn] at HALL HOL
        clear hnn
        go_wp2_with fail
        refine HALL.out.mono ?_
        rintro e z1 ⟨a3, c3, rfl, hr, hb⟩
        have HKZ := Lib.hid (HKT.out.next hb)
        have HMZ := Lib.hid (HMT.out.next hb)
        have HBZ := Lib.hid (Below.next HBT.out hb)
        have HRZ := Lib.hid (hr.isP HNN.out).1
        have hn4 : nn ≤ 4096 := HOL.out
        have HZZ : Hid (Below z1.heap.size z1 z1) := Lib.hid (Below.refl _ _)
        clear hr hb HKT HMT HBT HALL
        go_wp2_with fail
        go_loopw [92] (fun v92 wx => ∃ j : Nat, j ≤ nn ∧ v92 = .int .i64 j ∧ Below z1.heap.size z1 wx) (fun v92 _ => nn - (intOf v92).toNat)
        case atStart => exact ⟨0, Nat.zero_le _, rfl, HZZ.out⟩
        case round =>
          obtain ⟨j, hj, rfl, hbz⟩ := hrel
          by_cases hjl : j < nn
          · obtain ⟨g, o2, rfl, _, hf⟩ := (psAt_below HRZ.out hbz).lies (by omega)
            obtain ⟨y0, y1, y2⟩ := hf j hjl
            have hmem : (lk.map pktOf).getD j pk0 ∈ lk.map pktOf := getD_mem (by rw [← HNN.out]; exact hjl)
            obtain ⟨⟨pf, pt, pd⟩, hp⟩ : ∃ p, (lk.map pktOf).getD j pk0 = p := ⟨_, rfl⟩
            rw [hp] at y0 y1 y2 hmem
            simp only at y0 y1 y2
            obtain ⟨q0, hq0, hq1⟩ := List.mem_map.1 hmem
            have hK : K (pf, pt, pd) := hq1 ▸ HCT.out q0 hq0
            have hl := ((HMZ.out.next hbz).next (Joins.below_alloc1 wr (.cells #[.int .i64 pf, .int .i64 pt, .string pd] 39))).look hK
            unfold pv at hl
            simp only at hl
            have HBX := Lib.hid (hbz.alloc hbz.size (.cells #[.int .i64 pf, .int .i64 pt, .string pd] 39))
            clear hf hbz hp hmem hq0 hq1 hK
            go_wp2
            go_roundw
            case rel => exact ⟨j + 1, by omega, by go_num, HBX.out⟩
            case measure => simp [intOf]; omega
          · obtain rfl : j = nn := by omega
            have HBX := Lib.hid (Below.next HBZ.out hbz)
            have HKX := Lib.hid (HKZ.out.next hbz)
            have HMX := Lib.hid (HMZ.out.next hbz)
            clear hbz
            go_wp2
            go_roundw
            case rel => exact ⟨k + 1, lk, _, K, by omega, by go_num, HKX.out, HMX.out, HNT.out, HCT.out, HBX.out⟩
            case measure => simp [intOf]; omega
      · obtain rfl : k = len := by omega
        have HB := Lib.hid hbel
        clear hbel hck hkm
        go_wp2
        go_ret
        exact ⟨rfl, HB.out⟩
end Go.Proofs.Ytjnjpphbclepbaa

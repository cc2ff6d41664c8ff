/- BagNone. -/
import Derived.Test.YtjnjpphbclepbaaHL1
namespace Go.Proofs.Ytjnjpphbclepbaa
open Go Go.RowKit
set_option maxRecDepth 20000
set_option maxHeartbeats 16000000 in
theorem walkNone (a : Option Addr) (len cap : Nat) (l : List Ac) (j : Int) (w : World) (hi : IsAs w a len l) :
    Calls Try.prog 6 #[.slice a len cap, .int .i64 j] w fun e w' => e = .returned (.bool true) ∧ Below w.heap.size w w' := by
  have HI := Lib.hid hi
  have HG := fun (w' : World) (h : Below w.heap.size w w') => Lib.hid (great_any a len cap l w' (isAs_below hi h))
  have HLEN := Lib.hid hi.size
  clear hi
  go_enter Try.func6, Try.ntmps6
  go_wp2_with fail
  refine (ck_new w).mono ?_
  rintro e w1 ⟨rfl, hk, hb, hsz⟩
  have HB1 := Lib.hid hb
  have HN1 := Lib.hid hsz
  have HD2 : Hid (Dk w1.heap.size (w1.alloc (.cells #[.slice none 0 0, .slice none 0 0] 29)) w1.heap.size []) := Lib.hid (dk_new w1)
  have HK2 := Lib.hid (hk.next (Joins.below_alloc1 w1 (.cells #[.slice none 0 0, .slice none 0 0] 29)))
  have HB2 : Hid (Below w.heap.size w (w1.alloc (.cells #[.slice none 0 0, .slice none 0 0] 29))) := Lib.hid (HB1.out.alloc HB1.out.size _)
  clear hk hb hsz
  go_wp2_with fail
  generalize w1.alloc (.cells #[.slice none 0 0, .slice none 0 0] 29) = w2 at *
  generalize w1.heap.size = b' at *
  refine (awake_any w2).mono ?_
  rintro e w3 ⟨rfl, hb⟩
  have HB3 := Lib.hid (Below.next HB2.out hb)
  have HK3 := Lib.hid (HK2.out.next hb)
  have HD3 := Lib.hid ((HD2.out.lower (B' := w.heap.size) (by have := HD2.out.lo; have := HB1.out.size; have := HN1.out; omega)).next hb)
  clear hb HD2 HK2
  go_wp2_with fail
  refine (HG _ HB3.out).out.mono ?_
  rintro e w4 ⟨r, rfl, hb, hok⟩
  have HB4 := Lib.hid (Below.next HB3.out hb)
  have HK4 := Lib.hid (HK3.out.next hb)
  have HD4 := Lib.hid (HD3.out.next hb)
  have HOK := Lib.hid hok
  clear hb hok HK3 HD3 HG HN1 HB1
  cases r with
  | true =>
    go_wp2_with fail
    refine (awake_any _).mono ?_
    rintro e w5 ⟨rfl, hb⟩
    have HB5 := Lib.hid (Below.next HB4.out hb)
    clear hb
    go_wp2
    go_ret
    exact ⟨rfl, HB5.out⟩
  | false =>
    have HOKK : Hid (okAs l) := Lib.hid (HOK.out rfl)
    have hl60 : len ≤ 60 := by have := HOKK.out.1; rw [HLEN.out] at this; exact this
    go_wp2_with fail
    go_loopw [28] (fun v28 wr => ∃ (k : Nat) (lk : List Pk), k ≤ len ∧ v28 = .int .i64 k ∧ Ck w.heap.size wr w.heap.size lk ∧ Dk w.heap.size wr b' lk ∧ Below w.heap.size w wr) (fun v28 _ => len - (intOf v28).toNat)
    case atStart => exact ⟨0, [], Nat.zero_le _, rfl, HK4.out, HD4.out, HB4.out⟩
    case round =>
      obtain ⟨k, lk, hk, rfl, hck, hdk, hbel⟩ := hrel
      by_cases hlt : k < len
      · obtain ⟨b, off, rfl, hc, hr⟩ := isAs_at HI.out hbel hlt
        have hox := HOKK.out.2 k (by rw [HLEN.out]; exact hlt)
        obtain ⟨x, hx⟩ : ∃ x, l.getD k ac0 = x := ⟨_, rfl⟩
        rw [hx] at hc hr hox
        have HDO := fun (b b' : Nat) (lk : List Pk) (wd : World) (h1 : Below w.heap.size w wd) (h2 : Ck w.heap.size wd b lk) (h3 : Dk w.heap.size wd b' lk) => Lib.hid (do_any (B := w.heap.size) (b := b) (b' := b') (l := lk) x hox w hr (Nat.le_refl _) wd h1 h1.size h2 h3)
        obtain ⟨lx, hlx⟩ : ∃ f : List Pk → List Pk, ∀ lk, actL lk x = f lk := ⟨_, fun _ => rfl⟩
        simp only [hlx] at HDO
        obtain ⟨kd, n, bit, m, pa, pl, pc, ps⟩ := x
        obtain ⟨c0, c1, c2, c3, c4⟩ := hc
        simp only at c0 c1 c2 c3 c4 HDO
        have HB0 : Hid (Below wr.heap.size wr (wr.alloc (.cells #[.int .i64 kd, .int .i64 n, .int .i64 bit, .int .u32 (m : Int), .slice pa pl pc] 34))) := Lib.hid (Joins.below_alloc1 _ _)
        have HBD : Hid (Below w.heap.size w (wr.alloc (.cells #[.int .i64 kd, .int .i64 n, .int .i64 bit, .int .u32 (m : Int), .slice pa pl pc] 34))) := Lib.hid (hbel.alloc hbel.size _)
        have HKD : Hid (Ck w.heap.size (wr.alloc (.cells #[.int .i64 kd, .int .i64 n, .int .i64 bit, .int .u32 (m : Int), .slice pa pl pc] 34)) w.heap.size lk) := Lib.hid (hck.next HB0.out)
        have HDD : Hid (Dk w.heap.size (wr.alloc (.cells #[.int .i64 kd, .int .i64 n, .int .i64 bit, .int .u32 (m : Int), .slice pa pl pc] 34)) b' lk) := Lib.hid (hdk.next HB0.out)
        clear hck hdk hbel hr hox hx
        go_wp2_with fail
        refine (HDO _ _ _ _ HBD.out HKD.out HDD.out).out.mono ?_
        rintro e y1 ⟨rfl, hk1, hd1, hw⟩
        have HK1 := Lib.hid hk1
        have HD1 := Lib.hid hd1
        have HB1 := Lib.hid (HBD.out.trans (hw.below HBD.out.size))
        clear hk1 hd1 hw
        go_wp2
        go_roundw
        case rel => exact ⟨k + 1, _, by omega, by go_num, HK1.out, HD1.out, HB1.out⟩
        case measure => simp [intOf]; omega
      · obtain rfl : k = len := by omega
        have HK := Lib.hid hck
        have HB := Lib.hid hbel
        have HAL := fun (B b : Nat) (w : World) (h : Ck B w b lk) => Lib.hid (all_any w h)
        have HOL : Hid (lk.length ≤ 4096) := Lib.hid hck.ok.len
        obtain ⟨n, hn⟩ : ∃ n, lk.length = n := ⟨_, rfl⟩
        have HN := Lib.hid hn
        have HNM : Hid (n = (lk.map pktOf).length) := Lib.hid (by rw [List.length_map]; exact hn.symm)
        rw [hn] at HAL HOL
        clear hck hdk hbel
        go_wp2_with fail
        refine (HAL _ _ _ HK.out).out.mono ?_
        rintro e y1 ⟨a1, c1, rfl, hr1, hb⟩
        have HR1 := Lib.hid hr1
        have HK1 := Lib.hid (HK.out.next hb)
        have HB1 := Lib.hid (Below.next HB.out hb)
        clear hr1 hb
        by_cases hin : inb lk j
        · have q1 : decide (0 ≤ j) = true := by simpa using hin.1
          have q2 : decide (j < (n : Int)) = true := by rw [← hn]; simpa using hin.2
          clear hin hn
          go_wp2
          go_ret
          exact ⟨rfl, HB1.out⟩
        have HT := fun (B b : Nat) (w : World) (h : Ck B w b lk) => Lib.hid (ck_take j h)
        have HW := fun (B b : Nat) (w : World) (h : Ck B w b lk) => Lib.hid (ck_twice j h)
        have HS := fun (B b : Nat) (w : World) (h : Ck B w b lk) => Lib.hid (ck_spoil j 0 (by decide) (by decide) 1 (by decide) h)
        have p1 : atP lk j = pk0 ∧ tkL lk j = lk := by unfold atP tkL; rw [if_neg hin, if_neg hin]; exact ⟨rfl, rfl⟩
        have p2 : twE lk j = 11 := by unfold twE; rw [if_neg hin]
        have p3 : twL lk j = lk := by unfold twL; rw [p2, if_neg (by decide)]
        have p4 : spE lk j = 11 := by unfold spE; rw [if_neg hin]
        have p5 : spL lk j 0 1 = lk := by unfold spL; rw [p4, if_neg (by decide)]
        rw [p1.1, p1.2, decide_eq_false hin] at HT
        rw [p2, p3] at HW
        rw [p4, p5] at HS
        unfold pv pk0 at HT
        simp only at HT
        clear p1 p2 p3 p4 p5
        have hsplit : decide (0 ≤ j) = false ∨ (decide (0 ≤ j) = true ∧ decide (j < (n : Int)) = false) := by
          by_cases hj : 0 ≤ j
          · exact .inr ⟨by simpa using hj, by rw [← hn]; simp; unfold inb at hin; omega⟩
          · exact .inl (by simpa using hj)
        clear hin hn
        rcases hsplit with q1 | ⟨q1, q2⟩
        all_goals (
          go_wp2_with fail
          refine (HT _ _ _ HK1.out).out.mono ?_
          rintro e y2 ⟨rfl, hk, hw⟩
          have HX2 : Hid (PsAt y2 a1 n (lk.map pktOf)) := Lib.hid ((HR1.out.isP HNM.out).1.bkw hw (fun g off e => by subst e; obtain ⟨cur, hc⟩ := HR1.out.typ g rfl; exact ⟨_, _, hc⟩))
          have HT2 : Hid (∀ g off, a1 = some ⟨g, off, none⟩ → ∃ cur fr, y2.heap[g]? = some (.cells cur 39 fr)) := Lib.hid (fun g off e => by subst e; obtain ⟨cur, hc⟩ := HR1.out.typ g rfl; exact ⟨_, _, hw.cells hc (by decide) (by decide)⟩)
          have HB2 := Lib.hid (HB1.out.trans (hw.below HB1.out.size))
          have HK2 := fun o => Lib.hid (hk.next (Joins.below_alloc1 y2 o))
          clear hk hw
          go_wp2_with fail
          refine (HW _ _ _ (HK2 _).out).out.mono ?_
          rintro e y3 ⟨rfl, hk, hw⟩
          have HW3 := Lib.hid ((BkW.ofBelow (B := w.heap.size) (Joins.below_alloc1 y2 _)).trans hw)
          have HK3 := Lib.hid hk
          clear hk hw
          go_wp2_with fail
          refine (HS _ _ _ HK3.out).out.mono ?_
          rintro e y4 ⟨rfl, hk, hw⟩
          have HW4 := Lib.hid (HW3.out.trans hw)
          have HK4 := Lib.hid hk
          clear hk hw
          go_wp2_with fail
          refine (HAL _ _ _ HK4.out).out.mono ?_
          rintro e y5 ⟨a5, c5, rfl, hr5, hb⟩
          have HX5 := Lib.hid (psAt_below (HX2.out.bkw HW4.out HT2.out) hb)
          have HR5 := Lib.hid (hr5.isP HNM.out).1
          have HB5 := Lib.hid (Below.next (HB2.out.trans (HW4.out.below HB2.out.size)) hb)
          clear hr5 hb
          go_wp2_with fail
          refine (same_yes a5 a1 n _ _ (lk.map pktOf) (by have := HOL.out; omega) _ HR5.out HX5.out).mono ?_
          rintro e y6 ⟨rfl, e1, e2, e3, e4⟩
          have HB6 := Lib.hid (Below.next HB5.out (below_asit e1 e2 e3 e4))
          clear e1 e2 e3 e4
          go_wp2
          go_ret
          exact ⟨rfl, HB6.out⟩)
end Go.Proofs.Ytjnjpphbclepbaa

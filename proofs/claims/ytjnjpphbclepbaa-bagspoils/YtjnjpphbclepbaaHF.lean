/- Calls that came in; great. -/
import Derived.Test.YtjnjpphbclepbaaHE
namespace Go.Proofs.Ytjnjpphbclepbaa
open Go Go.RowKit
set_option maxRecDepth 20000
/-- A call: its kind, its number, its bit, its mask, its packets. -/
structure Ac where
  k : Int
  n : Int
  bit : Int
  m : Nat
  a : Option Addr
  len : Nat
  cap : Nat
  ps : List Pkt
def ac0 : Ac := ⟨0, 0, 0, 0, none, 0, 0, []⟩
/-- The five cells of a call lie there. -/
structure A5 (w : World) (b o : Nat) (x : Ac) : Prop where
  k : w.cell? ⟨b, o, none⟩ = some (.int .i64 x.k)
  n : w.cell? ⟨b, o + 1, none⟩ = some (.int .i64 x.n)
  bit : w.cell? ⟨b, o + 2, none⟩ = some (.int .i64 x.bit)
  m : w.cell? ⟨b, o + 3, none⟩ = some (.int .u32 (x.m : Int))
  p : w.cell? ⟨b, o + 4, none⟩ = some (.slice x.a x.len x.cap)
theorem A5.below {w w' : World} {B b o : Nat} {x : Ac} (h : A5 w b o x) (hb : Below B w w') (hl : b < B) : A5 w' b o x := by
  obtain ⟨h1, h2, h3, h4, h5⟩ := h
  constructor <;> (rw [hb.cell hl]; assumption)
/-- A packet whose numbers are numbers of 64 bits. -/
def okP (p : Pkt) : Prop := (Lit.int .i64 p.1).wf = true ∧ (Lit.int .i64 p.2.1).wf = true
/-- What is told of one. -/
structure Rp (w : World) (x : Ac) : Prop where
  ps : PsAt w x.a x.len x.ps
  hc : x.len ≤ x.cap
  hn : x.a = none → x.cap = 0
  b1 : -9223372036854775808 ≤ x.bit
  b2 : x.bit ≤ 9223372036854775807
  bm : x.m < 4294967296
  pb : ∀ p ∈ x.ps, okP p
theorem Rp.below {w w' : World} {x : Ac} (h : Rp w x) (hb : Below w.heap.size w w') : Rp w' x := ⟨psAt_below h.ps hb, h.hc, h.hn, h.b1, h.b2, h.bm, h.pb⟩
/-- What the walk is told of a row of calls. -/
structure IsAs (w : World) (a : Option Addr) (len : Nat) (l : List Ac) : Prop where
  size : l.length = len
  lies : 0 < len → ∃ b off, a = some ⟨b, off, none⟩ ∧ b < w.heap.size ∧ ∀ i, i < len → A5 w b (off + i * 5) (l.getD i ac0)
  each : ∀ i, i < len → Rp w (l.getD i ac0)
theorem isAs_below {w w' : World} {a : Option Addr} {len : Nat} {l : List Ac} (h : IsAs w a len l) (hb : Below w.heap.size w w') : IsAs w' a len l :=
  ⟨h.size, fun h0 => by
    obtain ⟨b, off, e, hl, hf⟩ := h.lies h0
    exact ⟨b, off, e, by have := hb.size; omega, fun i hi => (hf i hi).below hb hl⟩, fun i hi => (h.each i hi).below hb⟩
theorem acells_of {w wr : World} {a : Option Addr} {len : Nat} {l : List Ac} {k : Nat} (h : IsAs w a len l) (hb : Below w.heap.size w wr) (hk : k < len) : ∃ b off, a = some ⟨b, off, none⟩ ∧ A5 wr b (off + k * 5) (l.getD k ac0) ∧ Rp wr (l.getD k ac0) := by
  have h2 := isAs_below h hb
  obtain ⟨b, off, rfl, _, hf⟩ := h2.lies (by omega)
  exact ⟨b, off, rfl, hf k hk, h2.each k hk⟩
/-- A call that is played. -/
def okA (x : Ac) : Prop := x.len ≤ 20 ∧ ∀ p ∈ x.ps, p.2.2.size ≤ 60
def okAs (l : List Ac) : Prop := l.length ≤ 60 ∧ ∀ i, i < l.length → okA (l.getD i ac0)
theorem mem_getD {α : Type} {l : List α} {z p : α} (h : p ∈ l) : ∃ i, i < l.length ∧ l.getD i z = p := by
  obtain ⟨i, hi, rfl⟩ := List.mem_iff_getElem.1 h
  exact ⟨i, hi, by simp [List.getD_eq_getElem?_getD, hi]⟩
set_option maxHeartbeats 8000000 in
theorem great_any (a : Option Addr) (len cap : Nat) (l : List Ac) (w : World) (h : IsAs w a len l) :
    Calls Try.prog 9 #[.slice a len cap] w fun x w' => ∃ r, x = .returned (.bool r) ∧ Below w.heap.size w w' ∧ (r = false → okAs l) := by
  have hs := h.size
  have HS := Lib.hid hs
  have H := Lib.hid h
  clear h hs
  by_cases h60 : 60 < len
  · have q : (60 : Int) < (len : Int) := by omega
    go_enter Try.func9, Try.ntmps9
    go_wp2
    go_ret
    exact ⟨true, rfl, Below.refl _ _, fun e => by cases e⟩
  have q : ¬ (60 : Int) < (len : Int) := by omega
  have hl60 : len ≤ 60 := by omega
  go_enter Try.func9, Try.ntmps9
  go_wp2_with fail
  go_loopw [12] (fun v12 wr => ∃ k : Nat, k ≤ len ∧ v12 = .int .i64 k ∧ Below w.heap.size w wr ∧ ∀ i, i < k → okA (l.getD i ac0)) (fun v12 _ => len - (intOf v12).toNat)
  case atStart => exact ⟨0, Nat.zero_le _, rfl, Below.refl _ _, fun i hi => absurd hi (by omega)⟩
  case round =>
    obtain ⟨k, hk, rfl, hbel, hok⟩ := hrel
    by_cases hlt : k < len
    · obtain ⟨b, off, rfl, hc, hr⟩ := acells_of H.out hbel hlt
      obtain ⟨x, hx⟩ : ∃ x, l.getD k ac0 = x := ⟨_, rfl⟩
      rw [hx] at hc hr
      obtain ⟨kd, n, bit, m, pa, pl, pc, ps⟩ := x
      obtain ⟨c0, c1, c2, c3, c4⟩ := hc
      simp only at c0 c1 c2 c3 c4
      have HX := Lib.hid hx
      have HBEL := Lib.hid hbel
      have HOK := Lib.hid hok
      have HPS := Lib.hid hr.ps
      simp only at HPS
      clear hbel hok hr hx
      by_cases h20 : 20 < pl
      · have q2 : (20 : Int) < (pl : Int) := by omega
        go_wp2
        go_ret
        exact ⟨true, rfl, HBEL.out.alloc HBEL.out.size _, fun e => by cases e⟩
      have q2 : ¬ (20 : Int) < (pl : Int) := by omega
      have hpl : pl ≤ 20 := by omega
      have HB1 : Hid (Below w.heap.size w (wr.alloc (.cells #[.int .i64 kd, .int .i64 n, .int .i64 bit, .int .u32 (m : Int), .slice pa pl pc] 34))) := Lib.hid (HBEL.out.alloc HBEL.out.size _)
      have HP1 := Lib.hid (psAt_below HPS.out (Joins.below_alloc1 wr (.cells #[.int .i64 kd, .int .i64 n, .int .i64 bit, .int .u32 (m : Int), .slice pa pl pc] 34)))
      have HBW : Hid (Below (wr.alloc (.cells #[.int .i64 kd, .int .i64 n, .int .i64 bit, .int .u32 (m : Int), .slice pa pl pc] 34)).heap.size (wr.alloc (.cells #[.int .i64 kd, .int .i64 n, .int .i64 bit, .int .u32 (m : Int), .slice pa pl pc] 34)) (wr.alloc (.cells #[.int .i64 kd, .int .i64 n, .int .i64 bit, .int .u32 (m : Int), .slice pa pl pc] 34))) := Lib.hid (Below.refl _ _)
      go_wp2_with fail
      generalize wr.alloc (.cells #[.int .i64 kd, .int .i64 n, .int .i64 bit, .int .u32 (m : Int), .slice pa pl pc] 34) = w1 at *
      go_loopw [23] (fun v23 wx => ∃ j : Nat, j ≤ pl ∧ v23 = .int .i64 j ∧ Below w1.heap.size w1 wx ∧ ∀ i, i < j → (ps.getD i pk0).2.2.size ≤ 60) (fun v23 _ => pl - (intOf v23).toNat)
      case atStart => exact ⟨0, Nat.zero_le _, rfl, HBW.out, fun i hi => absurd hi (by omega)⟩
      case round =>
        obtain ⟨j, hj, rfl, hb1, hsm⟩ := hrel
        have HSM := Lib.hid hsm
        have HB2 := Lib.hid hb1
        have HB3 := Lib.hid (Below.next HB1.out hb1)
        by_cases hjl : j < pl
        · obtain ⟨g, o2, rfl, _, hf⟩ := (psAt_below HP1.out hb1).lies (by omega)
          obtain ⟨y0, y1, y2⟩ := hf j hjl
          obtain ⟨⟨pf, pt, pd⟩, hp⟩ : ∃ p, ps.getD j pk0 = p := ⟨_, rfl⟩
          rw [hp] at y0 y1 y2
          simp only at y0 y1 y2
          have HPD := Lib.hid hp
          clear hf hb1 hsm hp
          by_cases h6 : 60 < pd.size
          · have q3 : (60 : Int) < (pd.size : Int) := by omega
            go_wp2
            go_ret
            exact ⟨true, rfl, HB3.out.alloc HB3.out.size _, fun e => by cases e⟩
          · have q3 : ¬ (60 : Int) < (pd.size : Int) := by omega
            go_wp2
            go_roundw
            case rel => exact ⟨j + 1, by omega, by go_num, HB2.out.alloc HB2.out.size _, fun i hi => by
              rcases Nat.lt_or_ge i j with hx | hx
              · exact HSM.out i hx
              · obtain rfl : i = j := by omega
                rw [HPD.out]
                show pd.size ≤ 60
                omega⟩
            case measure => simp [intOf]; omega
        · obtain rfl : j = pl := by omega
          have HOA : Hid (okA (l.getD k ac0)) := Lib.hid (by
            rw [HX.out]
            refine ⟨hpl, fun p hp => ?_⟩
            obtain ⟨i, hi, rfl⟩ := mem_getD (z := pk0) hp
            exact HSM.out i (by have := HP1.out.size; have hi2 : i < ps.length := hi; omega))
          clear hb1 hsm
          go_wp2
          go_roundw
          case rel => exact ⟨k + 1, by omega, by go_num, HB3.out, fun i hi => by
            rcases Nat.lt_or_ge i k with hx | hx
            · exact HOK.out i hx
            · obtain rfl : i = k := by omega
              exact HOA.out⟩
          case measure => simp [intOf]; omega
    · obtain rfl : k = len := by omega
      have HBEL := Lib.hid hbel
      have HOK := Lib.hid hok
      clear hbel hok
      go_wp2
      go_ret
      exact ⟨false, rfl, HBEL.out, fun _ => ⟨by rw [HS.out]; exact hl60, fun i hi => HOK.out i (by rw [← HS.out]; exact hi)⟩⟩
end Go.Proofs.Ytjnjpphbclepbaa

/- readNumber, readUpdates, Get. -/
import Derived.Test.YtcknklodnfabpaaDoorXP
namespace Go.Proofs.YtcknklodnfabpaaDoor
open Go Go.RowKit
set_option maxHeartbeats 400000 in
theorem rdn_any (B : ByteArray) (At : Nat) (E m : Int) (b : Nat) (hA : At ≤ B.size) (hm : B.size ≤ maxLen) (m1 : -9223372036854775808 ≤ m) (m2 : m ≤ 9223372036854775807) (w : World) (hd : Wd w) (h : Rd w b (rst B At E) E) :
    Calls Tryd.prog 33 #[.pointer (some ⟨b, 0, none⟩), .int .i64 m] w fun x w' => x = .returned (.int .i64 (numV B At E m)) ∧ Rd w' b (rst B (rawA B At E) (hdE B At E m)) (hdE B At E m) ∧ w.grownBy w' (some b) := by
  have HU := Lib.hid (num_any B At E m b hA hm m1 m2 w hd h)
  have hvb := numV_bd B At E m hA
  clear h
  by_cases h0 : numV B At E m = 0
  · rw [show hdE B At E m = failE (numE B At E m) 1 from if_pos h0]
    rw [h0] at HU ⊢
    go_enter Tryd.func33, Tryd.ntmps33
    go_wp2_with fail
    refine HU.out.mono ?_
    rintro x w1 ⟨rfl, hr, hgr⟩
    have HR := Lib.hid hr
    have HGR := Lib.hid hgr
    clear hr hgr HU
    go_wp2_with fail
    refine (fail_any B (rawA B At E) (numE B At E m) 1 b _ HR.out).mono ?_
    rintro x w2 ⟨rfl, hr, hgr⟩
    have HR2 := Lib.hid hr
    have HG2 := Lib.hid (grown_trans HGR.out hgr)
    clear hr hgr HR HGR
    go_wp2
    go_ret
    exact ⟨rfl, HR2.out, HG2.out⟩
  · rw [show hdE B At E m = numE B At E m from if_neg h0]
    have k1 : (numV B At E m == 0) = false := by rw [beq_eq_false_iff_ne]; exact h0
    generalize numV B At E m = V at *
    go_enter Tryd.func33, Tryd.ntmps33
    go_wp2_with fail
    refine HU.out.mono ?_
    rintro x w1 ⟨rfl, hr, hgr⟩
    have HR := Lib.hid hr
    have HGR := Lib.hid hgr
    clear hr hgr HU
    go_wp2
    go_ret
    exact ⟨rfl, HR.out, HGR.out⟩
/-- Within readUpdates: the reader, and the row. -/
structure RdUs (w wr : World) (b g : Nat) (B : ByteArray) (A : Nat) (E : Int) (l : List Up) : Prop where
  pos : 0 < b
  lt : b < w.heap.size
  lo : w.heap.size ≤ g
  rd : Rd wr b (rst B A E) E
  d : Wd wr
  rw : Rw wr g l
  gr : w.grownBy wr (some b)
theorem RdUs.read {w wr w' : World} {b g : Nat} {B : ByteArray} {A A' : Nat} {E E' : Int} {l : List Up} (h : RdUs w wr b g B A E l) (hr : Rd w' b (rst B A' E') E') (hg : wr.grownBy w' (some b)) : RdUs w w' b g B A' E' l :=
  have h1 := h.lt
  have h2 := h.lo
  ⟨h.pos, h.lt, h.lo, hr, h.d.grown hg (pos0 h.pos), h.rw.kept hg (by simp; omega), grown_trans h.gr hg⟩
theorem RdUs.set {w wr : World} {b g : Nat} {B : ByteArray} {A : Nat} {E : Int} {l : List Up} (h : RdUs w wr b g B A E l) (k : Nat) (hk : k < l.length) (u : Up) :
    RdUs w ((((wr.setCell ⟨g, k * 4, none⟩ (.string u.1)).setCell ⟨g, k * 4 + 1, none⟩ (.int .i64 u.2.1)).setCell ⟨g, k * 4 + 2, none⟩ (.int .i64 u.2.2.1)).setCell ⟨g, k * 4 + 3, none⟩ (.string u.2.2.2)) b g B A E (l.set k u) :=
  have h1 := h.lt
  have h2 := h.lo
  have hne : b ≠ g := by omega
  have h0 : 0 < g := by omega
  ⟨h.pos, h.lt, h.lo, (((h.rd.setnew hne _ _).setnew hne _ _).setnew hne _ _).setnew hne _ _, (((h.d.setnew h0 _ _).setnew h0 _ _).setnew h0 _ _).setnew h0 _ _, h.rw.set4 k hk u,
    grown_setnew (grown_setnew (grown_setnew (grown_setnew h.gr h2 _) h2 _) h2 _) h2 _⟩
theorem RdUs.start {w wr : World} {b n : Nat} {B : ByteArray} {A : Nat} {E : Int} (hb : 0 < b) (hd : Wd w) (h : Rd w b (rst B A E) E) (hg : w.grownBy wr none) (hr : Rw wr w.heap.size (List.replicate n up0)) : RdUs w wr b w.heap.size B A E (List.replicate n up0) :=
  ⟨hb, h.lt, Nat.le_refl _, h.kept hg (by simp), hd.grown hg (by simp), hr, ⟨hg.os, hg.tape, hg.output, hg.size, fun k hk _ => hg.block k hk (by simp)⟩⟩
set_option maxHeartbeats 2000000 in
theorem rdus_any (B : ByteArray) (n At : Nat) (E : Int) (b : Nat) (hb : 0 < b) (hn : n ≤ 8) (hA : At ≤ B.size) (hm : B.size ≤ 140737488355328) (w : World) (hd : Wd w) (h : Rd w b (rst B At E) E) :
    Calls Tryd.prog 34 #[.pointer (some ⟨b, 0, none⟩), .int .i64 (n : Int)] w fun x w' => x = .returned (.slice (some ⟨w.heap.size, 0, none⟩) n n) ∧ RdUs w w' b w.heap.size B (updsR B n At E).2.1 (updsR B n At E).2.2 (updsR B n At E).1 := by
  obtain ⟨i0, hi, hz0, hz1, hz2⟩ := info_parts infoUz
  have HR := Lib.hid h
  have HD := Lib.hid hd
  clear h hd
  go_enter Tryd.func34, Tryd.ntmps34
  go_wp2_with (at_make; refine wpList_make_full _ rfl _ _ 22 rfl w.heap.size 45 i0 _ 4 Tryd.underlying22 hi hz0 hz1 .i64 .i64 (n : Int) (n : Int) n rfl rfl rfl rfl (by rw [hz2]; omega) (by unfold maxLen; omega) (Nat.le_refl _) ?_)
  intro w1 hown hgr
  have HP := Lib.hid (RdUs.start hb HD.out HR.out hgr (Rw.made hown))
  clear hown hgr HD HR
  go_wp2_with fail
  generalize hgs : w.heap.size = g at *
  go_loopw [11] (fun v11 wr => ∃ k : Nat, k ≤ n ∧ v11 = .int .i64 k ∧ RdUs w wr b g B (updsR B k At E).2.1 (updsR B k At E).2.2 ((updsR B k At E).1 ++ List.replicate (n - k) up0)) (fun v11 _ => n - (intOf v11).toNat)
  case atStart => exact ⟨0, Nat.zero_le _, rfl, HP.out⟩
  case round =>
    obtain ⟨k, hk, rfl, hp⟩ := hrel
    clear HP
    have HP := Lib.hid hp
    clear hp
    by_cases hlt : k < n
    · have hlen := updsR_len B k At E
      have HA := updsR_le B k At E hA
      have HC := Lib.hid (uread_any B (updsR B k At E).2.1 (updsR B k At E).2.2 b hb HA hm wr HP.out.d HP.out.rd)
      have HS := Lib.hid (show updsR B (k + 1) At E = ((updsR B k At E).1 ++ [(updR B (updsR B k At E).2.1 (updsR B k At E).2.2).1], (updR B (updsR B k At E).2.1 (updsR B k At E).2.2).2) from rfl)
      generalize updsR B k At E = r at *
      generalize updR B r.2.1 r.2.2 = q at *
      obtain ⟨⟨key, x, nn, s⟩, A', E'⟩ := q
      simp only [uu] at HC
      clear HA
      go_wp2_with fail
      refine HC.out.mono ?_
      rintro e w2 ⟨rfl, hr, hgr⟩
      have hp := HP.out.read hr hgr
      have hlk : k < (r.1 ++ List.replicate (n - k) up0).length := by rw [List.length_append, List.length_replicate]; omega
      obtain ⟨d0, d1, d2, d3⟩ := hp.rw.row k hlk
      have f0 := hp.rw.f0 (k * 4)
      have f1 := hp.rw.f0 (k * 4 + 1)
      have f2 := hp.rw.f0 (k * 4 + 2)
      have f3 := hp.rw.f0 (k * 4 + 3)
      have HP2 := Lib.hid (hp.set k hlk (key, x, nn, s))
      clear hp hr hgr HC HP hlk
      go_wp2
      go_roundw
      case rel => exact ⟨k + 1, by omega, by go_num, by rw [HS.out]; have := HP2.out; rw [set_step r.1 n k _ hlen hlt] at this; exact this⟩
      case measure => simp [intOf]; omega
    · obtain rfl : k = n := by omega
      go_wp2
      go_ret
      subst hgs
      exact ⟨rfl, by have := HP.out; rw [Nat.sub_self, List.replicate_zero, List.append_nil] at this; exact this⟩
/-- Within Get: the result's block, the round's, the reader. -/
structure GS (w wr : World) (b : Nat) (o n : Int) (a : Option Addr) (len : Nat) (s : ByteArray) (A : Nat) (E : Int) : Prop where
  pos : 0 < w.heap.size
  lo : w.heap.size + 1 < b
  res : Rb wr w.heap.size 0 0 none 0 0
  got : Rb wr (w.heap.size + 1) o n a len len
  rd : Rd wr b (rst s A E) E
  d : Wd wr
  bel : Below w.heap.size w wr
section
variable {w wr w' : World} {b : Nat} {o n : Int} {a : Option Addr} {len : Nat} {s : ByteArray} {A A' : Nat} {E E' : Int}
theorem GS.read (h : GS w wr b o n a len s A E) (hr : Rd w' b (rst s A' E') E') (hg : wr.grownBy w' (some b)) : GS w w' b o n a len s A' E' :=
  have h0 := h.pos
  have h1 := h.lo
  ⟨h.pos, h.lo, h.res.kept hg (by simp; omega), h.got.kept hg (by simp; omega), hr, h.d.grown hg (pos0 (by omega)), h.bel.grown hg h.bel.size (fun k e => by simp at e; omega)⟩
theorem GS.set0 (h : GS w wr b o n a len s A E) (x : Int) : GS w (wr.setCell ⟨w.heap.size + 1, 0, none⟩ (.int .i64 x)) b x n a len s A E :=
  have h1 := h.lo
  ⟨h.pos, h.lo, h.res.setnew (by omega) _ _, h.got.set0 x, h.rd.setnew (by omega) _ _, h.d.setnew (by omega) _ _, h.bel.setCell (by show w.heap.size ≤ w.heap.size + 1; omega) _⟩
theorem GS.set1 (h : GS w wr b o n a len s A E) (x : Int) : GS w (wr.setCell ⟨w.heap.size + 1, 1, none⟩ (.int .i64 x)) b o x a len s A E :=
  have h1 := h.lo
  ⟨h.pos, h.lo, h.res.setnew (by omega) _ _, h.got.set1 x, h.rd.setnew (by omega) _ _, h.d.setnew (by omega) _ _, h.bel.setCell (by show w.heap.size ≤ w.heap.size + 1; omega) _⟩
theorem GS.set2 (h : GS w wr b o n a len s A E) (a' : Option Addr) (len' : Nat) : GS w (wr.setCell ⟨w.heap.size + 1, 2, none⟩ (.slice a' len' len')) b o n a' len' s A E :=
  have h1 := h.lo
  ⟨h.pos, h.lo, h.res.setnew (by omega) _ _, h.got.set2 a' len' len', h.rd.setnew (by omega) _ _, h.d.setnew (by omega) _ _, h.bel.setCell (by show w.heap.size ≤ w.heap.size + 1; omega) _⟩
end
theorem GS.start (w : World) {w1 : World} {b : Nat} {s : ByteArray} (hd : Wd w) (hb : ((w.alloc (.cells #[.int .i64 0, .int .i64 0, .slice none 0 0] 24)).alloc (.cells #[.int .i64 0, .int .i64 0, .slice none 0 0] 24)).heap.size ≤ b) (hr : Rd w1 b (rst s 0 0) 0)
    (hbel : Below ((w.alloc (.cells #[.int .i64 0, .int .i64 0, .slice none 0 0] 24)).alloc (.cells #[.int .i64 0, .int .i64 0, .slice none 0 0] 24)).heap.size ((w.alloc (.cells #[.int .i64 0, .int .i64 0, .slice none 0 0] 24)).alloc (.cells #[.int .i64 0, .int .i64 0, .slice none 0 0] 24)) w1) :
    GS w w1 b 0 0 none 0 s 0 0 := by
  have h1 : Rb ((w.alloc (.cells #[.int .i64 0, .int .i64 0, .slice none 0 0] 24)).alloc (.cells #[.int .i64 0, .int .i64 0, .slice none 0 0] 24)) w.heap.size 0 0 none 0 0 := (Rb.new w 0 0 none 0 0).alloc _
  have h2 : Rb ((w.alloc (.cells #[.int .i64 0, .int .i64 0, .slice none 0 0] 24)).alloc (.cells #[.int .i64 0, .int .i64 0, .slice none 0 0] 24)) (w.heap.size + 1) 0 0 none 0 0 := by
    have h := Rb.new (w.alloc (.cells #[.int .i64 0, .int .i64 0, .slice none 0 0] 24)) 0 0 none 0 0
    rw [show (w.alloc (.cells #[.int .i64 0, .int .i64 0, .slice none 0 0] 24)).heap.size = w.heap.size + 1 by simp] at h
    exact h
  have hB := Joins.below_alloc2 w (.cells #[.int .i64 0, .int .i64 0, .slice none 0 0] 24) (.cells #[.int .i64 0, .int .i64 0, .slice none 0 0] 24)
  have hs : ((w.alloc (.cells #[.int .i64 0, .int .i64 0, .slice none 0 0] 24)).alloc (.cells #[.int .i64 0, .int .i64 0, .slice none 0 0] 24)).heap.size = w.heap.size + 2 := by simp
  rw [hs] at hb
  exact ⟨hd.pos, by omega, h1.next hbel, h2.next hbel, hr, (hd.below hB).below hbel, Below.next hB hbel⟩
end Go.Proofs.YtcknklodnfabpaaDoor

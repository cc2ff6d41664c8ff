/- replay: Touched. -/
import Derived.Test.YteonmljchcekpaaY6
import Derived.Test.YteonmljchcekpaaY7
import Derived.Test.YteonmljchcekpaaV4
namespace Go.Proofs.Yteonmljchcekpaa
open Go Go.RowKit Go.Maps Go.Sort
set_option maxRecDepth 20000
open Classical in
/-- How a map's yes or no reads. -/
noncomputable def bR (v : Value) : Option (DataW Bool × List MemPlace) := if h : ∃ x, v = .bool x then some (.held h.choose, []) else none
theorem bR_mk (x : Bool) : bR (.bool x) = some (.held x, []) := by
  have h : ∃ y, Value.bool x = .bool y := ⟨x, rfl⟩
  have e : x = h.choose := by
    have := h.choose_spec
    injection this
  unfold bR
  rw [dif_pos h, ← e]
theorem bR_inv {v : Value} {z : DataW Bool × List MemPlace} (h : bR v = some z) : ∃ x, v = .bool x ∧ z = (.held x, []) := by
  unfold bR at h
  split at h
  · rename_i hx
    exact ⟨hx.choose, hx.choose_spec, by simpa using h.symm⟩
  · cases h
/-- In block m lies a map that tells these keys. -/
def Seen (w : World) (m : Nat) (ks : List Ky) : Prop := ∃ D : DataW Bool, w.ownsMap Try.prog 9 bR m ks.length D ∧ ∀ x, D.atKey (.string x) (.held false) = .held (decide (x ∈ ks))
theorem Seen.kept {w w' : World} {m : Nat} {ks : List Ky} {row : Option Nat} (h : Seen w m ks) (hg : w.grownBy w' row) (hne : some m ≠ row) : Seen w' m ks := by
  obtain ⟨D, ho, ha⟩ := h
  exact ⟨D, ho.kept hg hne, ha⟩
theorem Seen.below {w w' : World} {m : Nat} {ks : List Ky} (h : Seen w m ks) (hb : Below w.heap.size w w') : Seen w' m ks := h.kept (grownOf none hb) (by simp)
theorem Seen.lt {w : World} {m : Nat} {ks : List Ky} (h : Seen w m ks) : m < w.heap.size := by obtain ⟨D, ho, _⟩ := h; exact ho.lt
theorem Seen.new (w : World) : Seen (w.alloc (.map #[] 0)) w.heap.size [] := ⟨_, World.ownsMap_made w Try.prog 9 bR, fun _ => rfl⟩
theorem zeroB (w : World) : (zeroValue 4).run Try.prog w = .ok (.bool false) w := by kernel_rfl
theorem Seen.look {w : World} {m : Nat} {ks : List Ky} (h : Seen w m ks) (s : ByteArray) (hs : s.size ≤ 1000) : (Instr.lookup 63 (.map (some m)) (.string s) false).run Try.prog w = .ok (.bool (decide (ky s ∈ ks))) w := by
  obtain ⟨D, ho, ha⟩ := h
  obtain ⟨v, ps, hrun, hv⟩ := ho.lookup law Try.underlying63 (zeroB w) (bR_mk false) (keyIs s hs)
  obtain ⟨x, rfl, hx⟩ := bR_inv hv
  rw [hrun]
  have e : decide (ky s ∈ ks) = x := by
    have e1 := congrArg Prod.fst hx
    simp only at e1
    rw [ha] at e1
    injection e1
  rw [e]
theorem Seen.put {w : World} {m : Nat} {ks : List Ky} (h : Seen w m ks) (hn : ks.length < 1000000) (s : ByteArray) (hs : s.size ≤ 1000) : ∃ w', (Instr.mapUpdate 63 (.map (some m)) (.string s) (.bool true)).run Try.prog w = .ok () w' ∧ Seen w' m (ks ++ [ky s]) ∧ w.grownBy w' (some m) := by
  obtain ⟨D, ho, ha⟩ := h
  obtain ⟨w2, hrun, ho2, ht2⟩ := ho.store law Try.underlying63 (show ks.length < maxLen by unfold maxLen; omega) (keyIs s hs) (bR_mk true)
  refine ⟨w2, hrun, ⟨_, by rw [List.length_append]; exact ho2, fun x => ?_⟩, ht2.grown⟩
  by_cases e : x = ky s
  · subst e
    rw [Maps.atKey_put_same ho.isMap (k := .string _) trivial]
    simp
  · rw [Maps.atKey_put_other (str_ne' e), ha x]
    simp [e]
/-- How it stands within Touched. -/
structure Tk (w wr : World) (v4 : Value) (ks : List Ky) : Prop where
  seen : Seen wr w.heap.size ks
  row : wr.ownsRow w.heap.size 9 1 v4 ks.length (ks.map encStr)
  bel : Below w.heap.size w wr
theorem Tk.next {w wr w1 : World} {v4 : Value} {ks : List Ky} (h : Tk w wr v4 ks) (hb : Below wr.heap.size wr w1) : Tk w w1 v4 ks :=
  ⟨h.seen.below hb, h.row.kept (grownOf none hb) (Classical.em _), Below.next h.bel hb⟩
theorem Tk.alloc {w wr : World} {v4 : Value} {ks : List Ky} (h : Tk w wr v4 ks) (o : Obj) : Tk w (wr.alloc o) v4 ks := h.next (Joins.below_alloc1 _ _)
theorem Tk.ne {w wr : World} {v4 : Value} {ks : List Ky} (h : Tk w wr v4 ks) : v4.ownBlock = none ∨ v4.ownBlock ≠ some w.heap.size := by
  rcases h.row.2 with ⟨rfl, _⟩ | ⟨g, cap, cur, rfl, _, hc, _⟩
  · exact .inl rfl
  · refine .inr fun e => ?_
    simp only [Value.ownBlock, Option.some.injEq] at e
    subst e
    obtain ⟨D, ⟨es, clock, hm, _⟩, _⟩ := h.seen
    rw [hc] at hm; cases hm
/-- The box of the update lies there too. -/
theorem tk_may {w wr w1 : World} {v4 : Value} {ks : List Ky} {uk ut : ByteArray} {ux un : Int} (h : Tk w wr v4 ks) (hb : Below (wr.alloc (.cells #[.string uk, .int .i64 ux, .int .i64 un, .string ut] 42)).heap.size (wr.alloc (.cells #[.string uk, .int .i64 ux, .int .i64 un, .string ut] 42)) w1) :
    Tk w w1 v4 ks ∧ Ub w1 wr.heap.size (uk, ux, un, ut) := ⟨(h.alloc _).next hb, Ub.kept (heap_alloc_new wr _) hb rfl⟩
theorem tk_bel {w w1 w2 : World} (h : Below w.heap.size w w1) (hg : w1.grownBy w2 (some w.heap.size)) : Below w.heap.size w w2 := h.grown hg h.size (fun j hj => by cases hj; exact Nat.le_refl _)
theorem tk_put {w w1 w2 : World} {v4 : Value} {ks ls : List Ky} {u : Up} {X : Nat} (h : Tk w w1 v4 ks ∧ Ub w1 X u) (h2 : Seen w2 w.heap.size ls) (hg : w1.grownBy w2 (some w.heap.size)) :
    w2.ownsRow w.heap.size 9 1 v4 ks.length (ks.map encStr) ∧ Ub w2 X u ∧ Seen w2 w.heap.size ls ∧ Below w.heap.size w w2 := by
  refine ⟨h.1.row.kept hg h.1.ne, ?_, h2, tk_bel h.1.bel hg⟩
  · refine (hg.block X h.2.lt fun e => ?_).trans h.2
    simp only [Option.some.injEq] at e
    obtain ⟨D, ⟨es, clock, hm, _⟩, _⟩ := h.1.seen
    have := h.2
    unfold Ub at this
    rw [e, hm] at this; cases this
theorem tk_app {w w2 w3 w4 : World} {v4 v' : Value} {ks : List Ky} {x : Ky} {o : Obj} {X : Nat} {u : Up} (h : w2.ownsRow w.heap.size 9 1 v4 ks.length (ks.map encStr) ∧ Ub w2 X u ∧ Seen w2 w.heap.size (ks ++ [x]) ∧ Below w.heap.size w w2) (hb : Below w2.heap.size w2 w3)
    (hr : w4.ownsRow w.heap.size 9 1 v' (ks.length + 1) (ks.map encStr ++ [encStr x])) (hg : (w3.alloc o).grownBy w4 v4.ownBlock) : Tk w w4 v' (ks ++ [x]) := by
  have hb3 := Below.next hb (Joins.below_alloc1 w3 o)
  have hrow := h.1.kept (grownOf none hb3) (Classical.em _)
  have hseen := h.2.2.1.below hb3
  have hbel := Below.next h.2.2.2 hb3
  refine ⟨hseen.kept hg fun e => ?_, by rw [List.length_append, List.map_append]; exact hr, hbel.grown hg hbel.size (fun j hj => (hrow.lt j hj).1)⟩
  rcases hrow.2 with ⟨rfl, _⟩ | ⟨g, cap, cur, rfl, _, hc, _⟩
  · cases e
  · simp only [Value.ownBlock, Option.some.injEq] at e
    subst e
    obtain ⟨D, ⟨es, clock, hm, _⟩, _⟩ := hseen
    rw [hc] at hm; cases hm
theorem Pl.closed {us : List Up} {rs : List Rn} (h : Pl us rs) : Pl [] rs :=
  ⟨fun u hu => h.sh u (by rw [List.append_nil] at hu; exact List.mem_append_left _ hu), by have := h.len; rw [List.length_append] at this; rw [List.append_nil]; omega, h.lr⟩
theorem up_snoc (us : List Up) (j : Nat) (h : j < us.length) : us.take (j + 1) = us.take j ++ [us.getD j up0] := by
  rw [List.take_add_one]; simp [List.getD_eq_getElem?_getD, h]
set_option maxHeartbeats 4000000 in
theorem touched_low (ar : Option Addr) (lr cr : Nat) (rs : List Rn) (hp : Pl [] rs) (ss : List Ky) (hss : TouL (flatR rs) ss) (w : World) (hr : IsRs w ar lr rs) :
    Calls Try.prog 18 #[.slice ar lr cr] w fun e w' => ∃ a' c', e = .returned (.slice a' ss.length c') ∧ IsSs w' a' ss ∧ (∀ b off, a' = some ⟨b, off, none⟩ → w.heap.size ≤ b) ∧ Below w.heap.size w w' := by
  obtain ⟨i0, hi, hz0, hz1, hz2⟩ := info_parts infoStr
  have HP := Lib.hid hp
  have H := Lib.hid hr
  have HSS := Lib.hid hss
  have hlr : lr ≤ 1000 := by have := hp.lr; have := hr.size; omega
  have hmm := @run_makeMap Try.prog
  clear hp hr hss
  go_enter Try.func18, Try.ntmps18
  go_wp2_with fail
  go_loopw [4, 12] (fun v4 v12 wr => ∃ (k : Nat) (ks : List Ky), k ≤ lr ∧ v12 = .int .i64 k ∧ TouC (flatR (rs.take k)) ks ∧ ks.length ≤ (flatR (rs.take k)).length ∧ Tk w wr v4 ks) (fun _ v12 _ => lr - (intOf v12).toNat)
  case atStart => exact ⟨0, [], Nat.zero_le _, rfl, touC_start, Nat.le_refl _, Seen.new w, World.ownsRow_nil _ _ _ _, Joins.below_alloc1 _ _⟩
  case round =>
    obtain ⟨k, ks0, hk, rfl, htc, hkl, htk⟩ := hrel
    have hsz := H.out.size
    by_cases hlt : k < lr
    · obtain ⟨b, off, rfl, c0, c1, c2, hru⟩ := rcells_of H.out htk.bel hlt
      have hat := HP.out.at (k := k) (by omega)
      have hrl := hru.1.size
      have HRU := Lib.hid hru.1
      have HST := Lib.hid (flatR_take rs k (by omega))
      have HSH := Lib.hid hat.1
      have hat2 := hat.2
      have HTK := Lib.hid htk
      have HTC := Lib.hid htc
      clear htk htc hat hru hsz HP HSS
      generalize rs.getD k rn0 = rr at *
      obtain ⟨ro, rnn, ra, rl, rc, ru⟩ := rr
      simp only at c0 c1 c2 HRU HSH hat2 hrl HST
      generalize flatR (rs.take k) = fl at *
      have hrl2 : rl ≤ 1000 := by omega
      go_wp2_with fail
      go_loopw [4, 19] (fun v4 v19 wr2 => ∃ (j : Nat) (ks : List Ky), j ≤ rl ∧ v19 = .int .i64 j ∧ TouC (fl ++ ru.take j) ks ∧ ks.length ≤ fl.length + j ∧ Tk w wr2 v4 ks) (fun _ v19 _ => rl - (intOf v19).toNat)
      case atStart => exact ⟨0, ks0, Nat.zero_le _, rfl, by rw [List.take_zero, List.append_nil]; exact HTC.out, by omega, HTK.out.alloc _⟩
      case round =>
        obtain ⟨j, ks, hj, rfl, htc2, hkl2, htk2⟩ := hrel
        clear HTK HTC c0 c1 c2
        by_cases hjl : j < rl
        · obtain ⟨b2, off2, rfl, d0, d1, d2, d3⟩ := cells_of HRU.out htk2.bel hjl
          have hus := HSH.out _ (mem_getD (us := ru) (k := j) (by omega))
          have hsn : fl ++ ru.take (j + 1) = (fl ++ ru.take j) ++ [ru.getD j up0] := by rw [up_snoc ru j (by omega), List.append_assoc]
          have HSN := Lib.hid hsn
          have HM := fun w => Lib.hid (may_any (ru.getD j up0) w)
          have hks : ks.length < 1000000 := by omega
          have hul : (ru.getD j up0).1.size ≤ 1000 := hus.1
          clear hus hsn
          by_cases hme : mayE (ru.getD j up0) = 0
          · rw [hme] at HM
            by_cases hin : ky (ru.getD j up0).1 ∈ ks
            · have HTC2 := Lib.hid (touC_there htc2 hin)
              rw [← HSN.out] at HTC2
              have hdec : decide (ky (ru.getD j up0).1 ∈ ks) = true := decide_eq_true hin
              have HTK2 := Lib.hid htk2
              clear htc2 htk2 hin hme HSN
              generalize ru.getD j up0 = u at *
              obtain ⟨uk, ux, un, ut⟩ := u
              simp only [uu] at HM d0 d1 d2 d3 hul hdec
              go_wp2_with fail
              refine (HM _).out.mono ?_
              rintro e w1 ⟨rfl, hb1⟩
              have h1 := tk_may HTK2.out hb1
              have hlook := h1.1.seen.look uk hul
              rw [hdec] at hlook
              obtain ⟨e0, e1, e2, e3⟩ := Ub.c h1.2
              have H1 := Lib.hid h1.1
              clear h1 hb1 HTK2 HM
              go_wp2
              go_roundw
              case rel => exact ⟨j + 1, ks, by omega, by go_num, HTC2.out, by omega, H1.out⟩
              case measure => simp [intOf]; omega
            · have HTC2 := Lib.hid (touC_new htc2 hme hin)
              rw [← HSN.out] at HTC2
              have hdec : decide (ky (ru.getD j up0).1 ∈ ks) = false := decide_eq_false hin
              have HTK2 := Lib.hid htk2
              clear htc2 htk2 hin hme HSN
              generalize ru.getD j up0 = u at *
              obtain ⟨uk, ux, un, ut⟩ := u
              simp only [uu] at HM d0 d1 d2 d3 hul hdec HTC2
              have HCl := fun w => Lib.hid (clone_any uk (by omega) w)
              go_wp2_with fail
              refine (HM _).out.mono ?_
              rintro e w1 ⟨rfl, hb1⟩
              have h1 := tk_may HTK2.out hb1
              have hlook := h1.1.seen.look uk hul
              rw [hdec] at hlook
              obtain ⟨e0, e1, e2, e3⟩ := Ub.c h1.2
              obtain ⟨w2, hrun, hs2, hg2⟩ := h1.1.seen.put hks uk hul
              have h2 := tk_put h1 hs2 hg2
              obtain ⟨g0, g1, g2, g3⟩ := Ub.c h2.2.1
              have H2 := Lib.hid h2
              clear h1 h2 hb1 HTK2 HM hs2 hg2
              go_wp2_with fail
              refine (HCl _).out.mono ?_
              rintro e w3 ⟨rfl, hb3⟩
              have hrow3 := H2.out.1.kept (grownOf none hb3) (Classical.em _)
              have hsz3 := Nat.le_trans H2.out.2.2.2.size hb3.size
              have HB3 := Lib.hid hb3
              clear hb3
              go_wp2_with (first
                | (at_builtin; refine wpList_append_own _ rfl _ _ 37 rfl w.heap.size 9 i0 (.string ⟨#[]⟩) 1 16 Try.underlying37 hi hz0 hz1 hz2 rfl (by decide) _ _ _ rfl (hrow3.alloc _) ⟨w3.heap.size, 0, none⟩ 1 1 [.string uk] rfl rfl (cell_one_new _ _ _) (by simp [Value.oneCell']) (by unfold maxLen at *; omega) (by omega) (by simp; omega) ?_; intro v' w4 hown' hg4 hnil4; go_frame)
                | go_in)
              have HT4 := Lib.hid (tk_app (x := ky uk) H2.out HB3.out hown' hg4)
              clear hown' hg4 hnil4 hrow3
              go_roundw
              case rel => exact ⟨j + 1, ks ++ [ky uk], by omega, by go_num, HTC2.out, by rw [List.length_append]; simp; omega, HT4.out⟩
              case measure => simp [intOf]; omega
          · have HTC2 := Lib.hid (touC_no htc2 hme)
            rw [← HSN.out] at HTC2
            have hq : (mayE (ru.getD j up0) == 0) = false := beq_false_of_ne hme
            have HTK2 := Lib.hid htk2
            clear htc2 htk2 hme HSN
            generalize mayE (ru.getD j up0) = me at *
            generalize ru.getD j up0 = u at *
            obtain ⟨uk, ux, un, ut⟩ := u
            simp only [uu] at HM d0 d1 d2 d3
            go_wp2_with fail
            refine (HM _).out.mono ?_
            rintro e w1 ⟨rfl, hb1⟩
            have H1 := Lib.hid (tk_may HTK2.out hb1).1
            clear hb1 HTK2 HM
            go_wp2
            go_roundw
            case rel => exact ⟨j + 1, ks, by omega, by go_num, HTC2.out, by omega, H1.out⟩
            case measure => simp [intOf]; omega
        · obtain rfl : j = rl := by omega
          rw [take_all hrl] at htc2
          have HTC2 := Lib.hid htc2
          have HTK2 := Lib.hid htk2
          clear htc2 htk2
          go_wp2
          go_roundw
          case rel => exact ⟨k + 1, ks, by omega, by go_num, by rw [HST.out]; exact HTC2.out, by rw [HST.out, List.length_append]; omega, HTK2.out⟩
          case measure => simp [intOf]; omega
    · obtain rfl : k = lr := by omega
      rw [takeR_all hsz] at htc hkl
      have hlen := HP.out.len
      rw [List.append_nil] at hlen
      obtain rfl := HSS.out.eq (touC_sort htc)
      clear htc HSS hsz H HP
      have hbel := htk.bel
      rcases htk.row.2 with ⟨hnil, h0⟩ | ⟨g, cap, cur, rfl, hbase, hb, h1, h2, h3, h4⟩
      · subst hnil
        obtain rfl : ks0 = [] := List.eq_nil_of_length_eq_zero h0
        have HBEL := Lib.hid hbel
        clear hbel htk
        go_wp2_with (go_at_call 34; refine (sort_nil _).mono ?_; rintro e w' ⟨rfl, rfl⟩)
        go_ret
        exact ⟨none, 0, by simp, ⟨fun hx => absurd hx (by simp)⟩, fun b off e => (by cases e), HBEL.out⟩
      · have hH : Holds encStr wr g 0 ks0.toArray := holds_of_block hb (by simpa using h4)
        have hgl : g < wr.heap.size := (Array.getElem?_eq_some_iff.1 hb).1
        have hc := sort_any g cap ks0 wr hH hgl (by omega)
        have HBEL := Lib.hid hbel
        have HL : Hid ((ks0.mergeSort fun x y => decide (x ≤ y)).length = ks0.length) := Lib.hid (List.length_mergeSort _)
        clear hbel htk
        go_wp2_with (go_at_call 34; refine hc.mono ?_; rintro e w' ⟨rfl, nn, os, rfl⟩)
        go_ret
        refine ⟨some ⟨g, 0, none⟩, cap, by rw [HL.out]; rfl, isSs_own (base := w.heap.size) (cap := cap) ?_, fun b off e => (by cases e; exact hbase), HBEL.out.grown (grownBy_sorted _) HBEL.out.size (fun j hj => by cases hj; exact hbase)⟩
        have := ownsRow_sorted (n := nn) (os := os) (ts := ks0.mergeSort fun x y => decide (x ≤ y)) (ss := ks0) HL.out hbase hb h1 h2 h3
        rw [HL.out]
        exact this
theorem touched_any (ar : Option Addr) (lr cr : Nat) (rs : List Rn) (hp : Pl [] rs) (ss : List Ky) (hss : TouL (flatR rs) ss) (w : World) (hr : IsRs w ar lr rs) :
    Calls Try.prog 18 #[.slice ar lr cr] w fun e w' => ∃ a' c', e = .returned (.slice a' ss.length c') ∧ IsSs w' a' ss ∧ Below w.heap.size w w' :=
  (touched_low ar lr cr rs hp ss hss w hr).mono fun _ _ ⟨a', c', h1, h2, _, h4⟩ => ⟨a', c', h1, h2, h4⟩
end Go.Proofs.Yteonmljchcekpaa

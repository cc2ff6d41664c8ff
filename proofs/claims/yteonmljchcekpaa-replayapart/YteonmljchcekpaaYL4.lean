/- The walk of ReplayApart. -/
import Derived.Test.YteonmljchcekpaaYL3
import Derived.Test.YteonmljchcekpaaYL5
namespace Go.Proofs.Yteonmljchcekpaa
open Go Go.RowKit Go.Maps Go.Sort
set_option maxRecDepth 20000
theorem pl_of {r : Rn} (h : ∀ u ∈ r.us, u.1.size ≤ 1000 ∧ Sh u.2.2.2) (hl : r.us.length ≤ 1000) : Pl [] [r] := by
  have e : flatR [r] ++ [] = r.us := by simp [flatR]
  exact ⟨by rw [e]; exact h, by rw [e]; exact hl, by simp⟩
theorem own_pl {key : ByteArray} {rs : List Rn} (h : Pl [] rs) : Pl [] (ownR key rs) := by
  have hs : (flatR (ownR key rs)).length ≤ (flatR rs).length := by
    unfold ownR
    induction rs with
    | nil => exact Nat.le_refl _
    | cons r rs ih =>
      have h2 : Pl [] rs := ⟨fun u hu => h.sh u (by rw [List.append_nil] at hu ⊢; exact List.mem_append_right _ hu), by have := h.len; have e : flatR (r :: rs) = r.us ++ flatR rs := rfl; rw [List.append_nil, e, List.length_append] at this; rw [List.append_nil]; omega, by have := h.lr; rw [List.length_cons] at this; omega⟩
      have ih := ih h2
      have e : flatR (r :: rs) = r.us ++ flatR rs := rfl
      rw [List.filter_cons, e, List.length_append]
      split
      · have e2 : ∀ l, flatR (r :: l) = r.us ++ flatR l := fun _ => rfl
        rw [e2, List.length_append]; omega
      · omega
  have h1 := h.len
  rw [List.append_nil] at h1
  refine ⟨fun u hu => ?_, by rw [List.append_nil]; omega, Nat.le_trans (ownR_len key rs) h.lr⟩
  rw [List.append_nil] at hu
  obtain ⟨r, hr, hx⟩ := List.mem_flatMap.1 hu
  exact h.sh u (by rw [List.append_nil]; exact mem_flat (ownR_mem hr) hx)
theorem own_next {key : ByteArray} {rs : List Rn} {k : Nat} {r : Rn} (h : rs.take (k + 1) = rs.take k ++ [r]) : (Tou r.us (ky key) → ownR key (rs.take (k + 1)) = ownR key (rs.take k) ++ [r]) ∧ (¬ Tou r.us (ky key) → ownR key (rs.take (k + 1)) = ownR key (rs.take k)) :=
  ⟨fun x => by rw [h]; exact ownR_yes x, fun x => by rw [h]; exact ownR_no x⟩
theorem isRs_one' (w : World) (r : Rn) {n : Nat} (hn : w.heap.size = n) (h : Ru w r) : IsRs (w.alloc (.cells #[.int .i64 r.o, .int .i64 r.n, .slice r.a r.len r.cap] 45)) (some ⟨n, 0, none⟩) 1 [r] := by
  subst hn; exact isRs_one h
theorem ss_snoc (ss : List Ky) (j : Nat) (h : j < ss.length) : ss.take (j + 1) = ss.take j ++ [ss.getD j []] := by
  rw [List.take_add_one]; simp [List.getD_eq_getElem?_getD, h]
/-- A key stands once in a row that rises. -/
theorem ss_once {ss : List Ky} (h : ss.Pairwise (fun a b => a < b)) {j : Nat} (hj : j < ss.length) : ¬ ss.getD j [] ∈ ss.take j := fun hx => by
  obtain ⟨i, hi, e⟩ := List.mem_iff_getElem.1 hx
  have hi' : i < j ∧ i < ss.length := by simp at hi; omega
  have h1 := getD_lt h hi'.1 hj
  have e2 : ss.getD i [] = ss.getD j [] := by rw [← e]; simp [List.getD_eq_getElem?_getD, hi'.2]
  rw [e2] at h1
  exact List.lt_irrefl _ h1
/-- The row's block lies below. -/
def Low (v : Value) (X : Nat) : Prop := ∀ g, v.ownBlock = some g → g < X
def LowA (a : Option Addr) (X : Nat) : Prop := ∀ b off, a = some ⟨b, off, none⟩ → X ≤ b
/-- How it stands within the inner loop of ReplayApart. -/
structure Inn (w wr : World) (v5 : Value) (os : List Rn) (X : Nat) (r : Rn) (a4 : Option Addr) (ss : List Ky) : Prop where
  row : RowR w.heap.size wr v5 os
  rb : Rb wr X r.o r.n r.a r.len r.cap
  ss : IsSs wr a4 ss
  bel : Below w.heap.size w wr
theorem IsSs.cell {w : World} {a : Option Addr} {ss : List Ky} (h : IsSs w a ss) {j : Nat} (hj : j < ss.length) : ∃ b off, a = some ⟨b, off, none⟩ ∧ w.cell? ⟨b, off + j, none⟩ = some (.string ⟨(ss.getD j []).toArray⟩) := by
  obtain ⟨b, off, e, _, hf⟩ := h.lies (by omega)
  exact ⟨b, off, e, hf j hj⟩
theorem Inn.box {w wr : World} {v5 : Value} {os : List Rn} {X : Nat} {ro rnn : Int} {ra : Option Addr} {rl rc : Nat} {ru : List Up} {a4 : Option Addr} {ss : List Ky} (h : Inn w wr v5 os X ⟨ro, rnn, ra, rl, rc, ru⟩ a4 ss) : wr.cell? ⟨X, 0, none⟩ = some (.int .i64 ro) ∧ wr.cell? ⟨X, 1, none⟩ = some (.int .i64 rnn) ∧ wr.cell? ⟨X, 2, none⟩ = some (.slice ra rl rc) := ⟨h.rb.c0, h.rb.c1, h.rb.c2⟩
theorem inn_start {w wr w4 : World} {v5 : Value} {os : List Rn} {X : Nat} {r : Rn} {o : Obj} {a4 : Option Addr} {ss : List Ky} (hrow : RowR w.heap.size wr v5 os) (hbel : Below w.heap.size w wr) (hs : IsSs w4 a4 ss) (hlo : LowA a4 ((wr.alloc (.cells #[.int .i64 r.o, .int .i64 r.n, .slice r.a r.len r.cap] 45)).alloc o).heap.size)
    (hb : Below ((wr.alloc (.cells #[.int .i64 r.o, .int .i64 r.n, .slice r.a r.len r.cap] 45)).alloc o).heap.size ((wr.alloc (.cells #[.int .i64 r.o, .int .i64 r.n, .slice r.a r.len r.cap] 45)).alloc o) w4) (hX : wr.heap.size = X := by rfl) :
    Inn w w4 v5 os X r a4 ss ∧ Low v5 X ∧ LowA a4 X := by
  subst hX
  have hb2 : Below wr.heap.size wr w4 := Below.next (Joins.below_alloc2 wr _ _) hb
  refine ⟨⟨hrow.below hb2, ((Rb.new wr _ _ _ _ _).alloc o).next hb, hs, Below.next hbel hb2⟩, fun g hg => (World.ownsRow.lt hrow g hg).2, fun b off e => ?_⟩
  have := hlo b off e
  simp at this
  omega
theorem Inn.app {w wr w5 : World} {v5 v' : Value} {os os' : List Rn} {X : Nat} {r : Rn} {a4 : Option Addr} {ss : List Ky} {o : Obj} (h : Inn w wr v5 os X r a4 ss) (hlo : Low v5 X) (hla : LowA a4 X) (hr : RowR w.heap.size w5 v' os') (hg : (wr.alloc o).grownBy w5 v5.ownBlock) : Inn w w5 v' os' X r a4 ss := by
  have hne : ∀ k, X ≤ k → some k ≠ v5.ownBlock := fun k hk e => by
    have := hlo k e.symm
    omega
  have hrow := h.row.alloc o
  have hbel := h.bel.alloc h.bel.size o
  refine ⟨hr, (h.rb.alloc o).kept hg (hne X (Nat.le_refl _)), ⟨fun h0 => ?_⟩, belR hrow hbel hg hbel.size⟩
  obtain ⟨b, off, e, hl, hf⟩ := (isSs_below h.ss (Joins.below_alloc1 _ o)).lies h0
  exact ⟨b, off, e, Nat.lt_of_lt_of_le hl hg.size, fun i hi => hg.cell (hf i hi) (hne b (hla b off e))⟩
theorem below_drewn {w W w1 : World} (h : Below w.heap.size w W) (hb : Below W.drew.heap.size W.drew w1) : Below w.heap.size w w1 := Below.far hb h rfl rfl rfl rfl
set_option maxHeartbeats 8000000 in
theorem walkApart (key : ByteArray) (ar : Option Addr) (lr cr : Nat) (rs : List Rn) (w : World) (hr : IsRs w ar lr rs) :
    Calls Try.prog 6 #[.string key, .slice ar lr cr] w fun e w' => e = .returned (.bool true) ∧ Below w.heap.size w w' := by
  have hu := isUs_nil w
  by_cases hg : g8 [] rs
  · have HG := fun w hu hr => Lib.hid (great8_yes none 0 0 [] ar lr cr rs hg w hu hr)
    have HU := Lib.hid hu
    have HR := Lib.hid hr
    clear hg hu hr 
    go_enter Try.func6, Try.ntmps6
    go_wp2_with fail
    refine (awake_yes _).mono ?_
    rintro e w1 ⟨rfl, hb⟩
    have HB1 := Lib.hid hb
    clear hb
    go_wp2_with fail
    refine (HG _ (isUs_below HU.out HB1.out) (isRs_below HR.out HB1.out)).out.mono ?_
    rintro e w2 ⟨rfl, hb⟩
    have HB2 := Lib.hid (Below.next HB1.out hb)
    clear hb HB1 HG
    go_wp2_with fail
    refine (awake_yes _).mono ?_
    rintro e w3 ⟨rfl, hb⟩
    have HB3 := Lib.hid (Below.next HB2.out hb)
    clear hb HB2
    go_wp2
    go_ret
    exact ⟨rfl, HB3.out⟩
  have HG := fun w hu hr => Lib.hid (great8_no none 0 0 [] ar lr cr rs hg w hu hr)
  have hp := g8_pl hg
  have hrl := (g8_rs hg).1
  have HU := Lib.hid hu
  have HR := Lib.hid hr
  rw [hr.size] at hrl
  by_cases hk : 100 < key.size
  · have q : decide ((100 : Int) < (key.size : Int)) = true := decide_eq_true (by omega)
    clear hg hu hr hp hk 
    go_enter Try.func6, Try.ntmps6
    go_wp2_with fail
    refine (awake_yes _).mono ?_
    rintro e w1 ⟨rfl, hb⟩
    have HB1 := Lib.hid hb
    clear hb
    go_wp2_with fail
    refine (HG _ (isUs_below HU.out HB1.out) (isRs_below HR.out HB1.out)).out.mono ?_
    rintro e w2 ⟨rfl, hb⟩
    have HB2 := Lib.hid (Below.next HB1.out hb)
    clear hb HB1 HG
    go_wp2_with fail
    refine (awake_yes _).mono ?_
    rintro e w3 ⟨rfl, hb⟩
    have HB3 := Lib.hid (Below.next HB2.out hb)
    clear hb HB2
    go_wp2
    go_ret
    exact ⟨rfl, HB3.out⟩
  have q : decide ((100 : Int) < (key.size : Int)) = false := decide_eq_false (by omega)
  have hk1 : key.size ≤ 1000 := by omega
  clear hk
  have HRD := fun w hr => Lib.hid (read_any key none 0 0 [] ar lr cr rs hp w (isUs_nil w) hr)
  have HP := Lib.hid hp
  rw [List.append_nil] at HRD
  obtain ⟨⟨rk, rn, rt⟩, HEQ⟩ : ∃ r, Hid (stF (flatR rs) (ky key) = r) := ⟨_, Lib.hid rfl⟩
  rw [HEQ.out] at HRD
  simp only [vv_eq] at HRD
  clear hp
  clear hg hu hr
  go_enter Try.func6, Try.ntmps6
  go_wp2_with fail
  refine (awake_yes _).mono ?_
  rintro e w1 ⟨rfl, hb⟩
  have HB1 := Lib.hid hb
  clear hb
  go_wp2_with fail
  refine (HG _ (isUs_below HU.out HB1.out) (isRs_below HR.out HB1.out)).out.mono ?_
  rintro e w2 ⟨rfl, hb⟩
  have HB2 := Lib.hid (Below.next HB1.out hb)
  clear hb HB1 HG
  clear HU
  go_wp2_with fail
  go_loopw [5, 25] (fun v5 v25 wr => ∃ k : Nat, k ≤ lr ∧ v25 = .int .i64 k ∧ RowR w.heap.size wr v5 (ownR key (rs.take k)) ∧ Below w.heap.size w wr) (fun _ v25 _ => lr - (intOf v25).toNat)
  case atStart => exact ⟨0, Nat.zero_le _, rfl, rowR_nil _ _, HB2.out⟩
  case round =>
    obtain ⟨k, hk, rfl, hrow, hbel⟩ := hrel
    have hsz := HR.out.size
    clear HB2
    by_cases hlt : k < lr
    · obtain ⟨b, off, rfl, c0, c1, c2, hru⟩ := rcells_of HR.out hbel hlt
      have hat := HP.out.at (k := k) (by omega)
      have hpr : Pl [] [rs.getD k rn0] := pl_of hat.1 (by omega)
      obtain ⟨ss, hss⟩ := touL_ex (flatR [rs.getD k rn0])
      have HTO := fun a c w hr => Lib.hid (touched_low a 1 c [rs.getD k rn0] hpr ss hss w hr)
      have hsl : ss.length ≤ 1000000 := tou_len hss (by have := hpr.len; rwa [List.append_nil] at this)
      have hs1 : TouL (rs.getD k rn0).us ss := by have e : flatR [rs.getD k rn0] = (rs.getD k rn0).us := by simp [flatR]
                                                  rwa [e] at hss
      have HSS := Lib.hid hs1
      have HSN := Lib.hid (take_snoc rs k (by omega))
      have hol : (ownR key (rs.take k)).length ≤ k := by have := ownR_len key (rs.take k); rw [List.length_take] at this; omega
      have HRU := Lib.hid (hru.below (hbel.alloc hbel.size (.cells #[.int .i64 (rs.getD k rn0).o, .int .i64 (rs.getD k rn0).n, .slice (rs.getD k rn0).a (rs.getD k rn0).len (rs.getD k rn0).cap] 45)))
      have HRU0 := Lib.hid hru
      have HROW := Lib.hid hrow
      have HBEL := Lib.hid hbel
      have hws := hbel.size
      clear hrow hbel hru hsz HRD HEQ HP hss hs1 hpr hat
      have HON := Lib.hid (own_next (key := key) HSN.out)
      generalize rs.getD k rn0 = rr at *
      generalize ownR key (rs.take k) = os at *
      obtain ⟨ro, rnn, ra, rl, rc, ru⟩ := rr
      simp only at c0 c1 c2 HSS HTO HRU HRU0 HSN HON
      go_wp2_with fail
      refine (HTO _ _ _ (isRs_one' (wr.alloc (.cells #[.int .i64 ro, .int .i64 rnn, .slice ra rl rc] 45)) ⟨ro, rnn, ra, rl, rc, ru⟩ (size_alloc wr _) HRU.out)).out.mono ?_
      rintro e w4 ⟨a4, c4, rfl, hs4, hlo4, hb4⟩
      have hin := inn_start (r := ⟨ro, rnn, ra, rl, rc, ru⟩) (o := (.cells #[.int .i64 ro, .int .i64 rnn, .slice ra rl rc] 45)) HROW.out HBEL.out hs4 hlo4 hb4
      have HIN := Lib.hid hin
      clear hs4 hlo4 hb4 hin HTO HROW HRU HBEL c0 c1 c2
      go_wp2_with fail
      generalize wr.heap.size = X at *
      go_loopw [5, 33] (fun v5 v33 w2 => ∃ j : Nat, j ≤ ss.length ∧ v33 = .int .i64 j ∧ ((¬ ky key ∈ ss.take j ∧ Inn w w2 v5 os X ⟨ro, rnn, ra, rl, rc, ru⟩ a4 ss ∧ Low v5 X ∧ LowA a4 X) ∨ (ky key ∈ ss.take j ∧ Inn w w2 v5 (os ++ [⟨ro, rnn, ra, rl, rc, ru⟩]) X ⟨ro, rnn, ra, rl, rc, ru⟩ a4 ss))) (fun _ v33 _ => ss.length - (intOf v33).toNat)
      case atStart => exact ⟨0, Nat.zero_le _, rfl, .inl ⟨by simp, HIN.out⟩⟩
      case round =>
        obtain ⟨j, hj, rfl, hcs⟩ := hrel
        clear HIN
        by_cases hjl : j < ss.length
        · have HTN := Lib.hid (ss_snoc ss j hjl)
          by_cases he : ss.getD j [] = ky key
          · obtain ⟨hni, hin, hlo, hla⟩ : ¬ ky key ∈ ss.take j ∧ Inn w wr u5 os X ⟨ro, rnn, ra, rl, rc, ru⟩ a4 ss ∧ Low u5 X ∧ LowA a4 X := by
              rcases hcs with hx | hx
              · exact hx
              · exact absurd (he ▸ hx.1) (ss_once HSS.out.1 hjl)
            obtain ⟨b2, off2, ea, d0⟩ := hin.ss.cell hjl
            subst ea
            have e1 : (ByteArray.mk (ss.getD j []).toArray) = key := by rw [he]; rfl
            rw [e1] at d0
            have q := eq_yes key
            obtain ⟨x0, x1, x2⟩ := hin.box
            have HIN := Lib.hid hin
            have HL := Lib.hid (And.intro hlo hla)
            have hw2 := hin.bel.size
            clear hin hlo hla hcs
            go_wp2_with (first
              | (at_builtin; refine wpList_appR rfl _ _ rfl w.heap.size _ os rfl (HIN.out.row.alloc _) (some ⟨wr.heap.size, 0, none⟩) 1 1 rfl [⟨ro, rnn, ra, rl, rc, ru⟩] (rsAt_one wr ⟨ro, rnn, ra, rl, rc, ru⟩) (Nat.le_refl _) (fun e => by cases e) (by omega) (Nat.le_trans hw2 (Joins.below_alloc1 _ _).size) ?_; intro a5 c5 w5 hr5 hg5 _; have HI5 := Lib.hid (HIN.out.app HL.out.1 HL.out.2 hr5 hg5); clear hr5 hg5; go_frame)
              | go_in)
            go_roundw
            case rel => exact ⟨j + 1, by omega, by go_num, .inr ⟨by rw [HTN.out, he]; simp, HI5.out⟩⟩
            case measure => simp [intOf]; omega
          · obtain ⟨b2, off2, ea, d0⟩ : ∃ b off, a4 = some ⟨b, off, none⟩ ∧ wr.cell? ⟨b, off + j, none⟩ = some (.string ⟨(ss.getD j []).toArray⟩) := by
              rcases hcs with hx | hx
              · exact hx.2.1.ss.cell hjl
              · exact hx.2.ss.cell hjl
            subst ea
            obtain ⟨tb, HTB⟩ : ∃ tb : ByteArray, Hid ((ByteArray.mk (ss.getD j []).toArray) = tb) := ⟨_, Lib.hid rfl⟩
            rw [HTB.out] at d0
            have q := eq_no (s := tb) (t := key) (fun e => he (by rw [← e, ← HTB.out]; rfl))
            have hn2 : ky key ∈ ss.take (j + 1) ↔ ky key ∈ ss.take j := by
              rw [HTN.out, List.mem_append, List.mem_singleton]
              exact ⟨fun y => y.elim id fun z => absurd z.symm he, .inl⟩
            have HCS := Lib.hid hcs
            have HN2 := Lib.hid hn2
            clear hcs hn2
            go_wp2
            go_roundw
            case rel => exact ⟨j + 1, by omega, by go_num, HCS.out.elim (fun x => .inl ⟨fun y => x.1 (HN2.out.1 y), x.2⟩) (fun x => .inr ⟨HN2.out.2 x.1, x.2⟩)⟩
            case measure => simp [intOf]; omega
        · obtain rfl : j = ss.length := by omega
          rw [List.take_length] at hcs
          have hfin : RowR w.heap.size wr u5 (ownR key (rs.take (k + 1))) ∧ Below w.heap.size w wr := by
            rcases hcs with hx | hx
            · rw [HON.out.2 (fun y => hx.1 ((HSS.out.2 _).2 y))]; exact ⟨hx.2.1.row, hx.2.1.bel⟩
            · rw [HON.out.1 ((HSS.out.2 _).1 hx.1)]; exact ⟨hx.2.row, hx.2.bel⟩
          have HFIN := Lib.hid hfin
          clear hcs hfin
          go_wp2
          go_roundw
          case rel => exact ⟨k + 1, by omega, by go_num, HFIN.out.1, HFIN.out.2⟩
          case measure => simp [intOf]; omega
    · obtain rfl : k = lr := by omega
      rw [takeR_all hsz] at hrow
      have hpo : Pl [] (ownR key rs) := own_pl HP.out
      have hno := own_none key rs
      obtain ⟨a5, c5, e5, _⟩ := hrow.is
      subst e5
      have HRO := fun w hr => Lib.hid (read_any key none 0 0 [] a5 (ownR key rs).length c5 (ownR key rs) hpo w (isUs_nil w) hr)
      rw [List.append_nil, own_read, HEQ.out] at HRO
      rw [HEQ.out] at hno
      simp only [vv_eq] at HRO
      have hol : (ownR key rs).length ≤ 1000 := hpo.lr
      have HOI := Lib.hid (hrow.isR rfl (fun r hr => (HR.out.each r (ownR_mem hr)).below hbel)).1
      have HBEL := Lib.hid hbel
      clear hrow hbel hpo HEQ HP
      generalize (ownR key rs).length = oln at *
      go_wp2_with fail
      refine (HRD _ (isRs_below HR.out HBEL.out)).out.mono ?_
      rintro e w5 ⟨rfl, hb⟩
      have HOS := Lib.hid (isRs_below (isRs_below HOI.out hb) (Joins.below_alloc1 w5 (.cells #[.int .i64 rk, .int .i64 rn, .string rt] 27)))
      have hv : Vb (w5.alloc (.cells #[.int .i64 rk, .int .i64 rn, .string rt] 27)) w5.heap.size (rk, rn, rt) := new_at rfl
      obtain ⟨v0, v1, v2⟩ := Vb.c hv
      have HV := Lib.hid hv
      have HBV := Lib.hid ((Below.next HBEL.out hb).alloc (Below.next HBEL.out hb).size (.cells #[.int .i64 rk, .int .i64 rn, .string rt] 27))
      clear hb hv HBEL HOI HRD
      by_cases hz : oln = 0
      · obtain ⟨rfl, rfl, rfl⟩ : rk = 0 ∧ rn = 0 ∧ rt = ⟨#[]⟩ := by
          have := hno hz
          simpa [noneV, emp] using this
        clear hno
        subst hz
        go_wp2_with fail
        generalize w5.alloc (.cells #[.int .i64 0, .int .i64 0, .string ⟨#[]⟩] 27) = w6 at *
        generalize w5.heap.size = X at *
        go_region_held3 (fun w' => w'.cell? ⟨X, 0, none⟩ = some (.int .i64 0) ∧ w'.cell? ⟨X, 1, none⟩ = some (.int .i64 0) ∧ w'.cell? ⟨X, 2, none⟩ = some (.string ⟨#[]⟩))
          (first | with_reducible assumption | exact ⟨v0, v1, v2⟩)
          (first
            | (go_at_call 11
               refine (HRO _ ?_).out.mono ?_
               · exact isRs_drew HOS.out
               rintro e w8 ⟨rfl, hb⟩
               have HV8 := Lib.hid (HV.out.kept hb rfl)
               obtain ⟨v0, v1, v2⟩ := Vb.c HV8.out
               have HB8 := Lib.hid (below_drewn HBV.out hb)
               clear hb))
        all_goals (
          go_wp2
          go_ret
          exact ⟨rfl, HB8.out⟩)
      · have hz2 : 0 < oln := by omega
        clear hno hz
        have z0 : decide ((0 : Int) < (oln : Int)) = true := decide_eq_true (by omega)
        go_wp2_with fail
        generalize w5.alloc (.cells #[.int .i64 rk, .int .i64 rn, .string rt] 27) = w6 at *
        generalize w5.heap.size = X at *
        refine wp_region_held_drew (S := fun w' => w'.cell? ⟨X, 0, none⟩ = some (.int .i64 rk) ∧ w'.cell? ⟨X, 1, none⟩ = some (.int .i64 rn) ∧ w'.cell? ⟨X, 2, none⟩ = some (.string rt)) (by kernel_rfl) ?_ (fun hH0 => ?_)
        · exact ⟨v0, v1, v2⟩
        refine wpAnyH_take (i := 0) (oi := { dst := some 49, op := Op.load 27 (Operand.tmp 10), type := 27, pos := "law.go:77", after := #[], guard := none }) (v := ?_) rfl (by kernel_rfl) (by kernel_rfl) (by kernel_rfl) (fun _ _ _ h => h) (Or.inl ⟨by rfl, ?_⟩) (by assumption) ?_
        rotate_left
        · intro w hSw
          try dsimp only at hSw
          go_simp
          all_goals with_reducible rfl
        try simp only [Act.put, List.setIfInBounds_toArray, List.set_cons_zero, List.set_cons_succ]
        refine wpAnyH_take (i := 1) (oi := { dst := some 50, op := Op.move (Operand.tmp 0), type := 9, pos := "law.go:77", after := #[], guard := none }) (v := ?_) rfl (by kernel_rfl) (by kernel_rfl) (by kernel_rfl) (fun _ _ _ h => h) (Or.inl ⟨by rfl, ?_⟩) (by assumption) ?_
        rotate_left
        · intro w hSw
          try dsimp only at hSw
          go_simp
          all_goals with_reducible rfl
        try simp only [Act.put, List.setIfInBounds_toArray, List.set_cons_zero, List.set_cons_succ]
        refine wpAnyH_take (i := 2) (oi := { dst := some 51, op := Op.move (Operand.tmp 5), type := 23, pos := "law.go:77", after := #[], guard := none }) (v := ?_) rfl (by kernel_rfl) (by kernel_rfl) (by kernel_rfl) (fun _ _ _ h => h) (Or.inl ⟨by rfl, ?_⟩) (by assumption) ?_
        rotate_left
        · intro w hSw
          try dsimp only at hSw
          go_simp
          all_goals with_reducible rfl
        try simp only [Act.put, List.setIfInBounds_toArray, List.set_cons_zero, List.set_cons_succ]
        refine wpAnyH_ready (rs := [3]) (by kernel_rfl) (by simp) ?_
        refine AllReadyH.cons (o := { dst := some 52, op := Op.call { callee := Callee.value (Operand.func 11), args := #[Operand.tmp 50, Operand.const (Value.slice none 0 0), Operand.tmp 51], argTypes := #[9, 22, 23] }, type := 27, pos := "law.go:77", after := #[{ on := 1, ground := Ground.data }, { on := 2, ground := Ground.data }], guard := none }) rfl (fun K hK => ?_) ?_
        · go_simp
          refine (HRO _ ?_).out.mono ?_
          · exact isRs_drew HOS.out
          rintro e w8 ⟨rfl, hb⟩
          have HV8 := Lib.hid (HV.out.kept hb rfl)
          obtain ⟨v0, v1, v2⟩ := Vb.c HV8.out
          have HB8 := Lib.hid (below_drewn HBV.out hb)
          clear hb
          go_wp2_with fail
          refine hK.out _ _ ?_ (fun hH1 => ?_)
          · exact ⟨v0, v1, v2⟩
          clear hK K hH0
          try simp only [Act.put, List.setIfInBounds_toArray, List.set_cons_zero, List.set_cons_succ]
          refine wpAnyH_take (i := 4) (oi := { dst := some 53, op := Op.binOp BinOp.eql 27 (Operand.tmp 49) (Operand.tmp 52) 27, type := 4, pos := "law.go:77", after := #[{ on := 0, ground := Ground.data }, { on := 3, ground := Ground.data }], guard := none }) (v := ?_) rfl (by kernel_rfl) (by kernel_rfl) (by kernel_rfl) (fun _ _ _ h => h) (Or.inl ⟨by rfl, ?_⟩) (by assumption) ?_
          rotate_left
          · intro w hSw
            try dsimp only at hSw
            go_simp
            all_goals with_reducible rfl
          try simp only [Act.put, List.setIfInBounds_toArray, List.set_cons_zero, List.set_cons_succ]
          refine wpAnyH_take (i := 5) (oi := { dst := some 54, op := Op.move (Operand.tmp 53), type := 4, pos := "law.go:77", after := #[{ on := 4, ground := Ground.data }, { on := 3, ground := Ground.chain }], guard := none }) (v := ?_) rfl (by kernel_rfl) (by kernel_rfl) (by kernel_rfl) (fun _ _ _ h => h) (Or.inl ⟨by rfl, ?_⟩) (by assumption) ?_
          rotate_left
          · intro w hSw
            try dsimp only at hSw
            go_simp
            all_goals with_reducible rfl
          try simp only [Act.put, List.setIfInBounds_toArray, List.set_cons_zero, List.set_cons_succ]
          refine wpAnyH_take (i := 6) (oi := { dst := some 55, op := Op.move (Operand.tmp 5), type := 23, pos := "law.go:77", after := #[{ on := 5, ground := Ground.guard }], guard := some (5, true) }) (v := ?_) rfl (by kernel_rfl) (by kernel_rfl) (by kernel_rfl) (fun _ _ _ h => h) (Or.inl ⟨by rfl, ?_⟩) (by assumption) ?_
          rotate_left
          · intro w hSw
            try dsimp only at hSw
            go_simp
            all_goals with_reducible rfl
          try simp only [Act.put, List.setIfInBounds_toArray, List.set_cons_zero, List.set_cons_succ]
          refine wpAnyH_take (i := 7) (oi := { dst := some 56, op := Op.call { callee := Callee.builtin Builtin.len, args := #[Operand.tmp 55], argTypes := #[23] }, type := 3, pos := "law.go:77", after := #[{ on := 6, ground := Ground.data }, { on := 5, ground := Ground.guard }], guard := some (5, true) }) (v := ?_) rfl (by kernel_rfl) (by kernel_rfl) (by kernel_rfl) (fun _ _ _ h => h) (Or.inl ⟨by rfl, ?_⟩) (by assumption) ?_
          rotate_left
          · intro w hSw
            try dsimp only at hSw
            go_simp
            all_goals with_reducible rfl
          try simp only [Act.put, List.setIfInBounds_toArray, List.set_cons_zero, List.set_cons_succ]
          refine wpAnyH_take (i := 8) (oi := { dst := some 57, op := Op.binOp BinOp.gtr 3 (Operand.tmp 56) (Operand.const (Value.int IntKind.i64 0)) 3, type := 4, pos := "law.go:77", after := #[{ on := 7, ground := Ground.data }, { on := 5, ground := Ground.guard }], guard := some (5, true) }) (v := ?_) rfl (by kernel_rfl) (by kernel_rfl) (by kernel_rfl) (fun _ _ _ h => h) (Or.inl ⟨by rfl, ?_⟩) (by assumption) ?_
          rotate_left
          · intro w hSw
            try dsimp only at hSw
            go_simp
            all_goals with_reducible rfl
          try simp only [Act.put, List.setIfInBounds_toArray, List.set_cons_zero, List.set_cons_succ]
          refine wpAnyH_take (i := 9) (oi := { dst := some 58, op := Op.move (Operand.tmp 57), type := 4, pos := "law.go:77", after := #[{ on := 8, ground := Ground.data }, { on := 5, ground := Ground.chain }, { on := 5, ground := Ground.guard }], guard := some (5, true) }) (v := ?_) rfl (by kernel_rfl) (by kernel_rfl) (by kernel_rfl) (fun _ _ _ h => h) (Or.inl ⟨by rfl, ?_⟩) (by assumption) ?_
          rotate_left
          · intro w hSw
            try dsimp only at hSw
            go_simp
            all_goals with_reducible rfl
          try simp only [Act.put, List.setIfInBounds_toArray, List.set_cons_zero, List.set_cons_succ]
          refine wpAnyH_take (i := 10) (oi := { dst := some 59, op := Op.load 27 (Operand.tmp 10), type := 27, pos := "law.go:77", after := #[{ on := 9, ground := Ground.guard }], guard := some (9, false) }) (v := undef) rfl (by kernel_rfl) (by kernel_rfl) (by kernel_rfl) (fun _ _ _ h => h) (Or.inr ⟨by rfl, rfl⟩) (by assumption) ?_
          try simp only [Act.put, List.setIfInBounds_toArray, List.set_cons_zero, List.set_cons_succ]
          refine wpAnyH_take (i := 11) (oi := { dst := some 60, op := Op.build 27 #[], type := 27, pos := "law.go:77", after := #[{ on := 9, ground := Ground.guard }], guard := some (9, false) }) (v := undef) rfl (by kernel_rfl) (by kernel_rfl) (by kernel_rfl) (fun _ _ _ h => h) (Or.inr ⟨by rfl, rfl⟩) (by assumption) ?_
          try simp only [Act.put, List.setIfInBounds_toArray, List.set_cons_zero, List.set_cons_succ]
          refine wpAnyH_take (i := 12) (oi := { dst := some 61, op := Op.binOp BinOp.eql 27 (Operand.tmp 59) (Operand.tmp 60) 27, type := 4, pos := "law.go:77", after := #[{ on := 10, ground := Ground.data }, { on := 11, ground := Ground.data }, { on := 9, ground := Ground.guard }], guard := some (9, false) }) (v := undef) rfl (by kernel_rfl) (by kernel_rfl) (by kernel_rfl) (fun _ _ _ h => h) (Or.inr ⟨by rfl, rfl⟩) (by assumption) ?_
          try simp only [Act.put, List.setIfInBounds_toArray, List.set_cons_zero, List.set_cons_succ]
          refine wpAnyH_take (i := 13) (oi := { dst := some 62, op := Op.pick (Operand.tmp 58) (Operand.const (Value.bool true)) (Operand.tmp 61), type := 4, pos := "law.go:77", after := #[{ on := 9, ground := Ground.data }, { on := 12, ground := Ground.data }, { on := 5, ground := Ground.guard }], guard := some (5, true) }) (v := ?_) rfl (by kernel_rfl) (by kernel_rfl) (by kernel_rfl) (fun _ _ _ h => h) (Or.inl ⟨by rfl, ?_⟩) (by assumption) ?_
          rotate_left
          · intro w hSw
            try dsimp only at hSw
            go_simp
            all_goals with_reducible rfl
          try simp only [Act.put, List.setIfInBounds_toArray, List.set_cons_zero, List.set_cons_succ]
          refine wpAnyH_take (i := 14) (oi := { dst := some 63, op := Op.pick (Operand.tmp 54) (Operand.tmp 62) (Operand.const (Value.bool false)), type := 4, pos := "law.go:77", after := #[{ on := 5, ground := Ground.data }, { on := 13, ground := Ground.data }], guard := none }) (v := ?_) rfl (by kernel_rfl) (by kernel_rfl) (by kernel_rfl) (fun _ _ _ h => h) (Or.inl ⟨by rfl, ?_⟩) (by assumption) ?_
          rotate_left
          · intro w hSw
            try dsimp only at hSw
            go_simp
            all_goals with_reducible rfl
          try simp only [Act.put, List.setIfInBounds_toArray, List.set_cons_zero, List.set_cons_succ]
          refine wpAnyH_take (i := 15) (oi := { dst := some 4, op := Op.assign (Operand.tmp 63), type := 4, pos := "law.go:77", after := #[{ on := 14, ground := Ground.data }, { on := 9, ground := Ground.chain }, { on := 0, ground := Ground.phase }, { on := 1, ground := Ground.phase }, { on := 2, ground := Ground.phase }, { on := 3, ground := Ground.phase }, { on := 4, ground := Ground.phase }, { on := 5, ground := Ground.phase }, { on := 6, ground := Ground.phase }, { on := 7, ground := Ground.phase }, { on := 8, ground := Ground.phase }, { on := 9, ground := Ground.phase }, { on := 10, ground := Ground.phase }, { on := 11, ground := Ground.phase }, { on := 12, ground := Ground.phase }, { on := 13, ground := Ground.phase }, { on := 14, ground := Ground.phase }], guard := none }) (v := ?_) rfl (by kernel_rfl) (by kernel_rfl) (by kernel_rfl) (fun _ _ _ h => h) (Or.inl ⟨by rfl, ?_⟩) (by assumption) ?_
          rotate_left
          · intro w hSw
            try dsimp only at hSw
            go_simp
            all_goals with_reducible rfl
          try simp only [Act.put, List.setIfInBounds_toArray, List.set_cons_zero, List.set_cons_succ]
          refine wpAnyH_done (by kernel_rfl) ?_ _
          go_wp2
          go_ret
          exact ⟨rfl, HB8.out⟩
        exact AllReadyH.nil
end Go.Proofs.Yteonmljchcekpaa

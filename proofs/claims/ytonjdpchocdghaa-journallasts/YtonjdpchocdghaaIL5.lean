/- The walk of JournalLasts. -/
import Derived.Test.YtonjdpchocdghaaIL4
namespace Go.Proofs.Ytonjdpchocdghaa
open Go Go.RowKit
set_option maxRecDepth 20000
/-- A row that the law may write: none of the journals' own. -/
def Wo (w0 w : World) (F G : Nat → Prop) (a : Option Addr) (n : Nat) : Prop :=
  0 < n → ∃ g, a = some ⟨g, 0, none⟩ ∧ (∃ cur, w.heap[g]? = some (.cells cur 50 (0, 0)) ∧ n * 4 ≤ cur.size) ∧ ¬ F g ∧ ¬ G g ∧ w0.heap.size ≤ g
section
variable {T T1 T2 : TypeId} {B : Nat} {w0 w w' : World} {b c : Nat} {F F' G G' : Nat → Prop} {o o1 o2 last : Int} {uss vss : List (List Up)} {us : List Up} {r : Rn} {a : Option Addr} {n : Nat}
theorem Wo.next (h : Wo w0 w F G a n) (hb : Below w.heap.size w w') : Wo w0 w' F G a n := fun h0 => by
  obtain ⟨g, e, ⟨cur, hc, hs⟩, h1, h2, h3⟩ := h h0
  exact ⟨g, e, ⟨cur, (hb.block g (Array.getElem?_eq_some_iff.1 hc).1).trans hc, hs⟩, h1, h2, h3⟩
theorem Wo.add1 (h : Wo w0 w F G a n) (ha : AddW T B w w' b F F' o last uss us r) : Wo w0 w' F' G a n := fun h0 => by
  obtain ⟨g, e, ⟨cur, hc, hs⟩, h1, h2, h3⟩ := h h0
  have hl := (Array.getElem?_eq_some_iff.1 hc).1
  exact ⟨g, e, ⟨cur, (ha.lv.block g hl h1).trans hc, hs⟩, fun hk => by
    rcases ha.new g hk with hk | hk
    · exact h1 hk
    · omega, h2, h3⟩
theorem Wo.add2 (h : Wo w0 w F G a n) (ha : AddW T B w w' c G G' o last uss us r) : Wo w0 w' F G' a n := fun h0 => by
  obtain ⟨g, e, ⟨cur, hc, hs⟩, h1, h2, h3⟩ := h h0
  have hl := (Array.getElem?_eq_some_iff.1 hc).1
  exact ⟨g, e, ⟨cur, (ha.lv.block g hl h2).trans hc, hs⟩, h1, fun hk => by
    rcases ha.new g hk with hk | hk
    · exact h2 hk
    · omega, h3⟩
theorem Wo.set (h : Wo w0 w F G a n) (g i : Nat) (x : Value) : Wo w0 (w.setCell ⟨g, i, none⟩ x) F G a n := fun h0 => by
  obtain ⟨g', e, ⟨cur, hc, hs⟩, h1, h2, h3⟩ := h h0
  by_cases hg : g' = g
  · subst hg
    refine ⟨g', e, ⟨cur.set! i x, by simp [World.setCell, Array.getElem?_modify, hc], by simpa using hs⟩, h1, h2, h3⟩
  · exact ⟨g', e, ⟨cur, (Below.heap_setCell _ _ _ _ hg).trans hc, hs⟩, h1, h2, h3⟩
theorem Wo.ofRow {c' : Nat} {l : List Up} (hr : RowU B w (.slice a n c') l) (hn : n = l.length) (hF : ∀ k, F k → k < B) (hG : ∀ k, G k → k < B) (hB : w0.heap.size ≤ B) : Wo w0 w F G a n := fun h0 => by
  subst hn
  rcases hr.2 with ⟨e, h1⟩ | ⟨g, cap, cur, e, hb, hh, h1, h2, h3, _⟩
  · omega
  · cases e
    exact ⟨g, rfl, ⟨cur, hh, by omega⟩, fun hk => by have := hF g hk; omega, fun hk => by have := hG g hk; omega, by omega⟩
theorem Wo.ofOwn (hr : Own B w r) (hF : ¬ ∃ g, r.a = some ⟨g, 0, none⟩ ∧ F g) (hG : ∀ k, G k → k < B) (hB : w0.heap.size ≤ B) : Wo w0 w F G r.a r.len := fun _ => by
  obtain ⟨g, e, hrw, hb, e1, _⟩ := hr
  refine ⟨g, e, ⟨_, hrw, ?_⟩, fun hk => hF ⟨g, e, hk⟩, fun hk => by have := hG g hk; omega, by omega⟩
  have := flU_len r.us
  simp only [List.size_toArray]
  omega
theorem Wo.zero (e : n = 0) : Wo w0 w F G a n := fun h => by omega
/-- What may be written: the cell that is there, and what stands behind the write. -/
theorem Wo.at' (h : Wo w0 w F G a n) {i : Nat} (hi : i < n) {j : Nat} (hj : j < 4) : ∃ g v, a = some ⟨g, 0, none⟩ ∧ w.cell? ⟨g, i * 4 + j, none⟩ = some v ∧ w.frozen? ⟨g, i * 4 + j, none⟩ = false ∧ ¬ F g ∧ ¬ G g ∧ w0.heap.size ≤ g ∧ ∃ cur, w.heap[g]? = some (.cells cur 50 (0, 0)) := by
  obtain ⟨g, e, ⟨cur, hc, hs⟩, h1, h2, h3⟩ := h (by omega)
  have hl : i * 4 + j < cur.size := by omega
  exact ⟨g, cur[i * 4 + j], e, by simp [World.cell?, hc, Array.getElem?_eq_getElem hl], by simp [World.frozen?, hc], h1, h2, h3, cur, hc⟩
/-- Within a round of the law, ahead of From. -/
structure St (w0 w : World) (b c : Nat) (F G : Nat → Prop) (uss : List (List Up)) (a : Option Addr) (n : Nat) (p : Nat) (ro rn : Int) (ra : Option Addr) (rl rc : Nat) : Prop where
  jp : Jp 52 42 w0 w b c F G 1 1 100 uss uss
  i : Wo w0 w F G a n
  r : Wo w0 w F G ra rl
  rb : Rb w p ro rn ra rl rc
theorem St.set {p : Nat} {ro rn : Int} {ra : Option Addr} {rl rc : Nat} (h : St w0 w b c F G uss a n p ro rn ra rl rc) {g : Nat} (h1 : ¬ F g) (h2 : ¬ G g) (h3 : w0.heap.size ≤ g) (ht : ∃ cur, w.heap[g]? = some (.cells cur 50 (0, 0))) (i : Nat) (x : Value) : St w0 (w.setCell ⟨g, i, none⟩ x) b c F G uss a n p ro rn ra rl rc := by
  obtain ⟨cur, hc⟩ := ht
  exact ⟨h.jp.setnew h3 h1 h2 _ _, h.i.set _ _ _, h.r.set _ _ _, h.rb.setnew (two_types h.rb hc (by decide)) _ _⟩
/-- Within a round of the law, behind From. -/
structure Sq (w0 w : World) (b c : Nat) (F G : Nat → Prop) (uss : List (List Up)) (gx : Nat) (xs : List Rn) : Prop where
  jp : Jp 52 42 w0 w b c F G 1 1 100 uss uss
  z : Rz w gx xs
  each : ∀ r ∈ xs, Wo w0 w F G r.a r.len
theorem Sq.next {gx : Nat} {xs : List Rn} (h : Sq w0 w b c F G uss gx xs) (hb : Below w.heap.size w w') : Sq w0 w' b c F G uss gx xs := ⟨h.jp.next hb, h.z.next hb, fun r hr => (h.each r hr).next hb⟩
theorem Sq.set {gx : Nat} {xs : List Rn} (h : Sq w0 w b c F G uss gx xs) {g : Nat} (h1 : ¬ F g) (h2 : ¬ G g) (h3 : w0.heap.size ≤ g) (ht : ∃ cur, w.heap[g]? = some (.cells cur 50 (0, 0))) (i : Nat) (x : Value) : Sq w0 (w.setCell ⟨g, i, none⟩ x) b c F G uss gx xs := by
  obtain ⟨cur, hc⟩ := ht
  have hne : gx ≠ g := two_types h.z hc (by decide)
  exact ⟨h.jp.setnew h3 h1 h2 _ _, (Below.heap_setCell _ _ _ _ hne).trans h.z, fun r hr => (h.each r hr).set _ _ _⟩
end
set_option maxHeartbeats 1000000 in
theorem walkLasts (a : Option Addr) (len cap : Nat) (ls : List Rn) (w : World) (h : IsLs w a len ls) :
    Calls Try.prog 5 #[.slice a len cap] w fun e w' => e = .returned (.bool true) ∧ Below w.heap.size w w' := by
  have H := Lib.hid h
  have hsz := h.size
  clear h
  by_cases hg : gL ls
  · go_enter Try.func5, Try.ntmps5
    go_wp2_with fail
    refine (jnew_any 1 100 w.heap.size w (Nat.le_refl _)).mono ?_
    rintro e w1 ⟨rfl, _, hb⟩
    have HB0 := Lib.hid hb
    clear hb
    go_wp2_with fail
    refine (dnew_any 1 100 w1.heap.size w1 (Nat.le_refl _)).mono ?_
    rintro e w1' ⟨rfl, _, hb⟩
    have HB1 := Lib.hid (Below.next HB0.out hb)
    clear hb HB0
    go_wp2_with fail
    refine (awake_any _).mono ?_
    rintro e w2 ⟨rfl, hb⟩
    have HB2 := Lib.hid (Below.next HB1.out hb)
    clear hb HB1
    go_wp2_with fail
    refine (great_yes a len cap ls hg _ (isLs_below H.out HB2.out)).mono ?_
    rintro e w3 ⟨rfl, hb⟩
    have HB3 := Lib.hid (Below.next HB2.out hb)
    clear hb HB2
    go_wp2_with fail
    refine (awake_any _).mono ?_
    rintro e w4 ⟨rfl, hb⟩
    have HB4 := Lib.hid (Below.next HB3.out hb)
    clear hb HB3
    go_wp2
    go_ret
    exact ⟨rfl, HB4.out⟩
  go_enter Try.func5, Try.ntmps5
  go_wp2_with fail
  refine (jnew_any 1 100 w.heap.size w (Nat.le_refl _)).mono ?_
  rintro e w1 ⟨rfl, hj, hb⟩
  have HJ0 := Lib.hid hj
  have HB0 := Lib.hid hb
  clear hj hb
  go_wp2_with fail
  refine (dnew_any 1 100 w.heap.size w1 HB0.out.size).mono ?_
  rintro e w1' ⟨rfl, hj, hb⟩
  have H1 : Hid (Jp 52 42 w w1' w.heap.size w1.heap.size _ _ 1 1 100 [] []) := Lib.hid ⟨Below.next HB0.out hb, HJ0.out.next hb, hj, fun k h1 h2 => by
    have := jf0 h1
    have := jf0 h2
    have := (HJ0.out.foot k h1).2
    omega⟩
  generalize Jf w.heap.size (.slice none 0 0) (fun _ => False) = F0 at H1
  generalize Jf w1.heap.size (.slice none 0 0) (fun _ => False) = G0 at H1
  clear hj hb HJ0 HB0
  go_wp2_with fail
  generalize w1.heap.size = c at *
  obtain ⟨hl30, hgl⟩ := gL_at hg
  have HG := Lib.hid hgl
  have HNG := fun w h => Lib.hid (great_no a len cap ls hg w h)
  have hlen : len ≤ 30 := by omega
  clear hgl hl30 hg
  refine (awake_any _).mono ?_
  rintro e w2 ⟨rfl, hb⟩
  have H2 := Lib.hid (H1.out.next hb)
  clear hb H1
  go_wp2_with fail
  refine (HNG _ (isLs_below H.out H2.out.bel)).out.mono ?_
  rintro e w3 ⟨rfl, hb⟩
  have H3 := Lib.hid (H2.out.next hb)
  clear hb H2 HNG
  go_wp2_with fail
  go_loopw [30] (fun v30 wr => ∃ k : Nat, k ≤ len ∧ v30 = .int .i64 k ∧ ∃ F G uss, uss.length ≤ k ∧ Jp 52 42 w wr w.heap.size c F G 1 1 100 uss uss) (fun v30 _ => len - (intOf v30).toNat)
  case atStart => exact ⟨0, Nat.zero_le _, rfl, F0, G0, [], Nat.le_refl _, H3.out⟩
  case round =>
    obtain ⟨k, hk, rfl, F, G, uss, hul, hp⟩ := hrel
    clear H3
    by_cases hlt : k < len
    · obtain ⟨gb, off, rfl, c0, hru⟩ := lcells_of H.out hp.bel hlt
      obtain ⟨_, hsm⟩ := HG.out k (by omega)
      have HP := Lib.hid hp
      generalize ls.getD k rn0 = r at *
      obtain ⟨ro0, rn0', ra, rl, rc, rus⟩ := r
      simp only at c0 hsm
      have HRU := Lib.hid hru
      have hrl := hru.1.size
      have hlc := hru.2.1
      have hna := hru.2.2
      simp only at hrl hlc hna
      have hr1000 := hsm.1
      clear hru hp
      go_wp2_with (at_builtin; refine wpList_appU0 rfl _ _ rfl rfl ra rl rc rfl rus (HRU.out.below HP.out.bel).1 hlc hna (by omega) ?_)
      intro a3 c3 w3 hr3 hb3
      have hP3 := HP.out.next hb3
      have hW3 : Wo w w3 F G a3 rl := Wo.ofRow hr3 hrl.symm (fun k hk => (HP.out.j.foot k hk).2) (fun k hk => (HP.out.m.foot k hk).2) HP.out.bel.size
      have HA := Lib.hid (jadd_any (uss := uss) (us := rus) (by omega) a3 rl c3 hsm w3 (hr3.isU hrl.symm).1 (fun g off e hF => by
        have := (hr3.addr e).1
        have := (HP.out.j.foot g hF).2
        omega) hP3.j)
      have HP3 := Lib.hid hP3
      have HW3 := Lib.hid hW3
      clear hr3 hb3 hP3 hW3
      go_wp2_with fail
      refine HA.out.mono ?_
      rintro e w4 ⟨r, F', rfl, haw, how, hnF⟩
      have hP4 := HP3.out.add1 haw
      have hW4 := HW3.out.add1 haw
      have hV4 : Wo w w4 F' G r.a r.len := by
        by_cases he : addE 1 100 uss rus = 0
        · exact Wo.ofOwn (how he) (fun hx => by
            obtain ⟨g, e, hk⟩ := hx
            exact hnF g 0 e hk) (fun k hk => (HP3.out.m.foot k hk).2) HP3.out.bel.size
        · have e1 := haw.r.us'
          rw [if_neg he] at e1
          have e2 := haw.ru.1.size
          rw [e1] at e2
          exact Wo.zero (by simpa using e2.symm)
      obtain ⟨ro, rn, ra', rl', rc', U⟩ := r
      simp only at hV4
      simp only [rv]
      have hlr : rl' ≤ 1000 := by
        have e1 := haw.r.us'
        have e2 := haw.ru.1.size
        simp only at e1 e2
        rw [e1] at e2
        rw [← e2]
        split
        · exact hr1000
        · simp
      have hbA := Joins.below_alloc1 w4 (.cells #[.int .i64 ro, .int .i64 rn, .slice ra' rl' rc'] 32)
      have HR8 := Lib.hid (Rb.new w4 ro rn ra' rl' rc')
      have HNG8 : Hid (¬ G w4.heap.size) := Lib.hid fun hG => by have := (hP4.m.foot _ hG).2; omega
      have HP4 := Lib.hid (hP4.next hbA)
      have HW4 := Lib.hid (hW4.next hbA)
      have HV4 := Lib.hid (hV4.next hbA)
      have HM := Lib.hid (dadd_any (uss := uss) (us := rus) (by omega) ra rl rc hsm _ (HRU.out.below HP4.out.bel).1 hlc hna HP4.out.m)
      clear haw hP4 hW4 hV4 HA HP3 HW3 how hnF hbA
      go_wp2_with fail
      refine HM.out.mono ?_
      rintro e w6 ⟨q, G', rfl, haw⟩
      have HS : Hid (St w w6 w.heap.size c F' G' (addL 1 100 uss rus) a3 rl w4.heap.size ro rn ra' rl' rc') := Lib.hid ⟨HP4.out.add2 haw, HW4.out.add2 haw, HV4.out.add2 haw, HR8.out.left haw.lv HNG8.out⟩
      generalize hv : addL 1 100 uss rus = vss at *
      have hvl : vss.length ≤ k + 1 := by rw [← hv]; exact Nat.le_trans (addL_len 1 100 uss rus) (by omega)
      have HVL := Lib.hid hvl
      have hr12 : rl ≤ 1000 := by omega
      generalize w4.heap.size = p8 at *
      clear haw hv hvl HP4 HW4 HV4 HR8 HNG8 HM HP c0 hna hlc hrl hul hr1000 hsm
      go_wp2_with fail
      go_loopw [48] (fun v48 wz => ∃ i : Nat, i ≤ rl ∧ v48 = .int .i64 i ∧ St w wz w.heap.size c F' G' vss a3 rl p8 ro rn ra' rl' rc') (fun v48 _ => rl - (intOf v48).toNat)
      case atStart => exact ⟨0, Nat.zero_le _, rfl, HS.out⟩
      case round =>
        obtain ⟨i, hi, rfl, hs⟩ := hrel
        clear HS
        by_cases hil : i < rl
        · obtain ⟨g, v, rfl, d0, f0, x1, x2, x3, x4⟩ := hs.i.at' hil (show 0 < 4 by omega)
          rw [Nat.add_zero] at d0 f0
          have HS := Lib.hid (hs.set x1 x2 x3 x4 (i * 4) (.string ⟨#[111, 116, 104, 101, 114]⟩))
          clear hs x1 x2 x3 x4
          go_wp2
          go_roundw
          case rel => exact ⟨i + 1, by omega, by go_num, HS.out⟩
          case measure => simp [intOf]; omega
        · obtain rfl : i = rl := by omega
          have HS := Lib.hid hs
          have d2 := hs.rb.c2
          clear hs
          go_wp2_with fail
          clear d2
          go_loopw [59] (fun v59 wz => ∃ i' : Nat, i' ≤ rl' ∧ v59 = .int .i64 i' ∧ St w wz w.heap.size c F' G' vss a3 i p8 ro rn ra' rl' rc') (fun v59 _ => rl' - (intOf v59).toNat)
          case atStart => exact ⟨0, Nat.zero_le _, rfl, HS.out⟩
          case round =>
            obtain ⟨i', hi', rfl, hs⟩ := hrel
            clear HS
            have d2 := hs.rb.c2
            by_cases hil' : i' < rl'
            · obtain ⟨g, v, rfl, d0, f0, x1, x2, x3, x4⟩ := hs.r.at' hil' (show 0 < 4 by omega)
              rw [Nat.add_zero] at d0 f0
              have HS := Lib.hid (hs.set x1 x2 x3 x4 (i' * 4) (.string ⟨#[101, 108, 115, 101]⟩))
              clear hs x1 x2 x3 x4
              go_wp2
              go_roundw
              case rel => exact ⟨i' + 1, by omega, by go_num, HS.out⟩
              case measure => simp [intOf]; omega
            · obtain rfl : i' = rl' := by omega
              have HJP := Lib.hid hs.jp
              clear hs d2
              have HVL2 := HVL.out
              have HF := Lib.hid (fun W h => jfrom_any (uss := vss) (F := F') (B := w.heap.size) (b := w.heap.size) (o := 1) (last := 100) 0 (by omega) W h)
              rw [fromK_zero, Nat.sub_zero] at HF
              obtain ⟨M, hM⟩ : ∃ M, vss.length = M := ⟨_, rfl⟩
              have HMM := Lib.hid hM
              rw [hM] at HF HVL2
              clear hM
              go_wp2_with fail
              refine (HF.out _ HJP.out.j).mono ?_
              rintro e w7 ⟨gx, xs, rfl, hz, hgx, hown, hof, hb⟩
              have hxl : xs.length = M := by rw [hof.len, List.drop_zero]; exact HMM.out
              have hq : Sq w w7 w.heap.size c F' G' vss gx xs := ⟨HJP.out.next hb, hz, fun r hr => Wo.ofOwn (hown r hr) (fun hx => by
                obtain ⟨g, e, hk⟩ := hx
                obtain ⟨g', e', _, hg', _⟩ := hown r hr
                rw [e'] at e
                cases e
                have := (HJP.out.j.foot _ hk).2
                omega) (fun k hk => (HJP.out.m.foot k hk).2) HJP.out.bel.size⟩
              have HQ := Lib.hid hq
              have HXL : Hid (∀ r ∈ xs, r.len ≤ 1000) := Lib.hid fun r hr => by
                obtain ⟨_, _, _, _, e1, _⟩ := hown r hr
                obtain ⟨n, hn, rfl⟩ := List.getElem_of_mem hr
                have e2 := (hof.at' n (by rw [← hof.len]; exact hn)).2.2
                rw [List.getD_eq_getElem?_getD, List.getElem?_eq_getElem hn] at e2
                simp only [Option.getD_some] at e2
                rw [e1, e2, List.drop_zero]
                obtain ⟨_, _, _, _, _, _, hsmv, _⟩ := HJP.out.j.open'
                have hn2 : n < vss.length := by rw [HMM.out, ← hxl]; exact hn
                rw [List.getD_eq_getElem?_getD, List.getElem?_eq_getElem hn2]
                exact (hsmv _ (List.getElem_mem hn2)).1
              clear hz hgx hown hof hb hq HJP HF
              go_wp2_with fail
              go_loopw [71] (fun v71 wz => ∃ n : Nat, n ≤ M ∧ v71 = .int .i64 n ∧ Sq w wz w.heap.size c F' G' vss gx xs) (fun v71 _ => M - (intOf v71).toNat)
              case atStart => exact ⟨0, Nat.zero_le _, rfl, HQ.out⟩
              case round =>
                obtain ⟨n, hn, rfl, hq⟩ := hrel
                clear HQ
                by_cases hnl : n < M
                · obtain ⟨d0, d1, d2⟩ := hq.z.row n (by omega)
                  have hmem : xs.getD n rn0 ∈ xs := rn_mem (by omega)
                  have hxl2 := HXL.out _ hmem
                  generalize hr : xs.getD n rn0 = x at *
                  obtain ⟨xo, xn, xa, xl, xc, xu⟩ := x
                  simp only at d0 d1 d2 hxl2
                  have hbA := Joins.below_alloc1 wr (.cells #[.int .i64 xo, .int .i64 xn, .slice xa xl xc] 32)
                  have HQ := Lib.hid (hq.next hbA)
                  have HRX := Lib.hid (Rb.new wr xo xn xa xl xc)
                  have HMEM := Lib.hid hmem
                  have h2 := HRX.out.c2
                  clear hq hbA hmem hr
                  go_wp2_with fail
                  generalize wr.heap.size = p13 at *
                  clear h2 d0 d1 d2
                  go_loopw [78] (fun v78 wy => ∃ m : Nat, m ≤ xl ∧ v78 = .int .i64 m ∧ Sq w wy w.heap.size c F' G' vss gx xs ∧ Rb wy p13 xo xn xa xl xc) (fun v78 _ => xl - (intOf v78).toNat)
                  case atStart => exact ⟨0, Nat.zero_le _, rfl, HQ.out, HRX.out⟩
                  case round =>
                    obtain ⟨m, hm, rfl, hq, hrx⟩ := hrel
                    clear HQ HRX
                    have d2 := hrx.c2
                    by_cases hml : m < xl
                    · obtain ⟨g, v, e, d0, f0, x1, x2, x3, x4⟩ := (hq.each _ HMEM.out).at' hml (show 2 < 4 by omega)
                      simp only at e
                      subst e
                      have HQ := Lib.hid (hq.set x1 x2 x3 x4 (m * 4 + 2) (.int .i64 99))
                      have HRX := Lib.hid (hrx.setnew (two_types hrx x4.choose_spec (by decide)) (m * 4 + 2) (.int .i64 99))
                      clear hq hrx x1 x2 x3 x4
                      go_wp2
                      go_roundw
                      case rel => exact ⟨m + 1, by omega, by go_num, HQ.out, HRX.out⟩
                      case measure => simp [intOf]; omega
                    · obtain rfl : m = xl := by omega
                      have HQ := Lib.hid hq
                      clear hq hrx d2
                      go_wp2
                      go_roundw
                      case rel => exact ⟨n + 1, by omega, by go_num, HQ.out⟩
                      case measure => simp [intOf]; omega
                · obtain rfl : n = M := by omega
                  have HQ := Lib.hid hq
                  clear hq
                  go_wp2
                  go_roundw
                  case rel => exact ⟨k + 1, by omega, by go_num, F', G', vss, HVL.out, HQ.out.jp⟩
                  case measure => simp [intOf]; omega
    · obtain rfl : k = len := by omega
      obtain ⟨am, cm, rm, hc2, hrm, hom, hsmm, hcW⟩ := hp.m.open'
      obtain ⟨L, hL⟩ : ∃ L, uss.length = L := ⟨_, rfl⟩
      rw [hL] at hc2 hrm hcW
      have HF3 := Lib.hid (fun W h => jfrom_any (uss := uss) (F := F) (B := w.heap.size) (b := w.heap.size) (o := 1) (last := 100) 0 (by omega) W h)
      rw [fromK_zero] at HF3
      rw [hL] at HF3
      have HSB := Lib.hid (fun xs h1 => same_of (o := 1) (K := 0) (uss := uss) (xs := xs) (rs := rm) hsmm (by rw [hL]) h1 hom)
      rw [Nat.sub_zero] at HF3 HSB
      have hL30 : L ≤ 30 := by omega
      have HRM := Lib.hid hrm
      have HCW := Lib.hid hcW
      have HP := Lib.hid hp
      have HLL : Hid ((uss.drop 0).length = L) := Lib.hid (by rw [List.drop_zero]; exact hL)
      clear hp hrm hcW hom hsmm hL hul
      go_wp2_with fail
      refine wp_region_held_drew (S := fun w' => w'.cell? ⟨c, 2, none⟩ = some (.slice am L cm)) (by kernel_rfl) ?_ (fun hH => ?_)
      · exact hc2
      refine wpAnyH_take (i := 0) (oi := { dst := some 89, op := Go.Op.move (Go.Operand.tmp 3), type := 24, pos := "law.go:98", after := #[], guard := none }) (v := ?_) rfl (by kernel_rfl) (by kernel_rfl) (by kernel_rfl) (fun _ _ _ h => h) (Or.inl ⟨by rfl, ?_⟩) (by assumption) ?_
      rotate_left
      · intro w hSw
        try dsimp only at hSw
        go_simp
        all_goals with_reducible rfl
      try simp only [Act.put, List.setIfInBounds_toArray, List.set_cons_zero, List.set_cons_succ]
      refine wpAnyH_take (i := 2) (oi := { dst := some 91, op := Go.Op.move (Go.Operand.tmp 4), type := 26, pos := "law.go:98", after := #[], guard := none }) (v := ?_) rfl (by kernel_rfl) (by kernel_rfl) (by kernel_rfl) (fun _ _ _ h => h) (Or.inl ⟨by rfl, ?_⟩) (by assumption) ?_
      rotate_left
      · intro w hSw
        try dsimp only at hSw
        go_simp
        all_goals with_reducible rfl
      try simp only [Act.put, List.setIfInBounds_toArray, List.set_cons_zero, List.set_cons_succ]
      refine wpAnyH_take (i := 3) (oi := { dst := some 92, op := Go.Op.nilCheck (Go.Operand.tmp 91), type := 0, pos := "law.go:98", after := #[{ on := 2, ground := Go.Ground.data }], guard := none }) (v := ?_) rfl (by kernel_rfl) (by kernel_rfl) (by kernel_rfl) (fun _ _ _ h => h) (Or.inl ⟨by rfl, ?_⟩) (by assumption) ?_
      rotate_left
      · intro w hSw
        try dsimp only at hSw
        go_simp
        all_goals with_reducible rfl
      try simp only [Act.put, List.setIfInBounds_toArray, List.set_cons_zero, List.set_cons_succ]
      refine wpAnyH_take (i := 4) (oi := { dst := some 93, op := Go.Op.fieldAddr 42 (Go.Operand.tmp 92) 2, type := 0, pos := "law.go:98", after := #[{ on := 3, ground := Go.Ground.data }], guard := none }) (v := ?_) rfl (by kernel_rfl) (by kernel_rfl) (by kernel_rfl) (fun _ _ _ h => h) (Or.inl ⟨by rfl, ?_⟩) (by assumption) ?_
      rotate_left
      · intro w hSw
        try dsimp only at hSw
        go_simp
        all_goals with_reducible rfl
      try simp only [Act.put, List.setIfInBounds_toArray, List.set_cons_zero, List.set_cons_succ]
      refine wpAnyH_take (i := 5) (oi := { dst := some 94, op := Go.Op.load 40 (Go.Operand.tmp 93), type := 40, pos := "law.go:98", after := #[{ on := 4, ground := Go.Ground.data }], guard := none }) (v := ?_) rfl (by kernel_rfl) (by kernel_rfl) (by kernel_rfl) (fun _ _ _ h => h) (Or.inl ⟨by rfl, ?_⟩) (by assumption) ?_
      rotate_left
      · intro w hSw
        try dsimp only at hSw
        go_simp
        all_goals with_reducible rfl
      try simp only [Act.put, List.setIfInBounds_toArray, List.set_cons_zero, List.set_cons_succ]
      refine wpAnyH_ready (rs := [1]) (by kernel_rfl) (by simp) ?_
      refine AllReadyH.cons (o := { dst := some 90, op := Go.Op.call { callee := Go.Callee.value (Go.Operand.func 18), args := #[Go.Operand.tmp 89, Go.Operand.const (Go.Value.int Go.IntKind.i64 0)], argTypes := #[24, 3] }, type := 40, pos := "law.go:98", after := #[{ on := 0, ground := Go.Ground.data }], guard := none }) rfl (fun K hK => ?_) ?_
      · go_simp
        refine (HF3.out wr.drew HP.out.drew.j).mono ?_
        rintro e w7 ⟨g2, ys, rfl, hz, _, hown, hof, hb'⟩
        have hb : Below wr.heap.size wr w7 := ⟨hb'.os, hb'.tape, hb'.output, hb'.size, hb'.block⟩
        have HB7 := Lib.hid hb
        have HOF7 := Lib.hid hof
        have hyl : ys.length = L := by rw [hof.len]; exact HLL.out
        have HX7 : Hid (IsRs w7 (some ⟨g2, 0, none⟩) L ys) := Lib.hid ⟨hyl, by have := hz.at.lies; rw [hyl] at this; exact this, fun r hr => (hown r hr).ru⟩
        have k7 := HCW.out _ HB7.out
        have HP7 := Lib.hid (HP.out.next hb)
        clear hz hown hof hb hb' hyl
        go_wp2_with fail
        refine hK.out _ _ ?_ (fun hH => ?_)
        · exact k7
        clear hK K
        try simp only [Act.put, List.setIfInBounds_toArray, List.set_cons_zero, List.set_cons_succ]
        refine wpAnyH_ready (rs := [6]) (by kernel_rfl) (by simp) ?_
        refine AllReadyH.cons (o := { dst := some 95, op := Go.Op.call { callee := Go.Callee.value (Go.Operand.func 17), args := #[Go.Operand.tmp 90, Go.Operand.tmp 94], argTypes := #[40, 40] }, type := 4, pos := "law.go:98", after := #[{ on := 1, ground := Go.Ground.data }, { on := 5, ground := Go.Ground.data }, { on := 1, ground := Go.Ground.chain }], guard := none }) rfl (fun K hK => ?_) ?_
        · go_simp
          refine (sameall_yes _ _ L L cm ys rm (by omega) (HSB.out ys HOF7.out).1 (HSB.out ys HOF7.out).2 w7 HX7.out (isRs_below HRM.out HB7.out)).mono ?_
          rintro e w8 ⟨rfl, hb⟩
          have HB8' := Lib.hid (Below.next HB7.out hb)
          have HB8 := Lib.hid (HP7.out.next hb).bel
          have k8 := HCW.out _ HB8'.out
          clear hb
          go_wp2_with fail
          refine hK.out _ _ ?_ (fun hH => ?_)
          · exact k8
          clear hK K
          try simp only [Act.put, List.setIfInBounds_toArray, List.set_cons_zero, List.set_cons_succ]
          refine wpAnyH_take (i := 7) (oi := { dst := some 2, op := Go.Op.assign (Go.Operand.tmp 95), type := 4, pos := "law.go:98", after := #[{ on := 6, ground := Go.Ground.data }, { on := 6, ground := Go.Ground.chain }, { on := 0, ground := Go.Ground.phase }, { on := 1, ground := Go.Ground.phase }, { on := 2, ground := Go.Ground.phase }, { on := 3, ground := Go.Ground.phase }, { on := 4, ground := Go.Ground.phase }, { on := 5, ground := Go.Ground.phase }, { on := 6, ground := Go.Ground.phase }], guard := none }) (v := ?_) rfl (by kernel_rfl) (by kernel_rfl) (by kernel_rfl) (fun _ _ _ h => h) (Or.inl ⟨by rfl, ?_⟩) (by assumption) ?_
          rotate_left
          · intro w hSw
            try dsimp only at hSw
            go_simp
            all_goals with_reducible rfl
          try simp only [Act.put, List.setIfInBounds_toArray, List.set_cons_zero, List.set_cons_succ]
          refine wpAnyH_done (by kernel_rfl) ?_ _
          go_wp2
          go_ret
          exact ⟨rfl, HB8.out⟩
        exact AllReadyH.nil
      exact AllReadyH.nil
end Go.Proofs.Ytonjdpchocdghaa

/- The walk of CommitRounds. -/
import Derived.Test.YtgifbkmpaejdbaaC8
namespace Go.Proofs.Ytgifbkmpaejdbaa
open Go Go.RowKit
set_option maxRecDepth 20000
/-- A row that the law may write: none of the journals' own. -/
def Wo (w0 w : World) (F G : Nat → Prop) (a : Option Addr) (n : Nat) : Prop :=
  0 < n → ∃ g, a = some ⟨g, 0, none⟩ ∧ (∃ cur, w.heap[g]? = some (.cells cur 47 (0, 0)) ∧ n * 4 ≤ cur.size) ∧ ¬ F g ∧ ¬ G g ∧ w0.heap.size ≤ g
section
variable {B : Nat} {w0 w w' : World} {b d : Nat} {F G : Nat → Prop} {c : Int} {L : List Cr} {r : Rn} {a : Option Addr} {n : Nat}
theorem Wo.next (h : Wo w0 w F G a n) (hb : Below w.heap.size w w') : Wo w0 w' F G a n := fun h0 => by
  obtain ⟨g, e, ⟨cur, hc, hs⟩, h1, h2, h3⟩ := h h0
  exact ⟨g, e, ⟨cur, (hb.block g (Array.getElem?_eq_some_iff.1 hc).1).trans hc, hs⟩, h1, h2, h3⟩
theorem Wo.set (h : Wo w0 w F G a n) (g i : Nat) (x : Value) : Wo w0 (w.setCell ⟨g, i, none⟩ x) F G a n := fun h0 => by
  obtain ⟨g', e, ⟨cur, hc, hs⟩, h1, h2, h3⟩ := h h0
  by_cases hg : g' = g
  · subst hg
    refine ⟨g', e, ⟨cur.set! i x, by simp [World.setCell, Array.getElem?_modify, hc], by simpa using hs⟩, h1, h2, h3⟩
  · exact ⟨g', e, ⟨cur, (Below.heap_setCell _ _ _ _ hg).trans hc, hs⟩, h1, h2, h3⟩
theorem Wo.ofOwn (hr : Own B w r) (hF : ¬ ∃ g, r.a = some ⟨g, 0, none⟩ ∧ F g) (hG : ∀ k, G k → k < B) (hB : w0.heap.size ≤ B) : Wo w0 w F G r.a r.len := fun _ => by
  obtain ⟨g, e, hrw, hb, e1, _⟩ := hr
  refine ⟨g, e, ⟨_, hrw, ?_⟩, fun hk => hF ⟨g, e, hk⟩, fun hk => by have := hG g hk; omega, by omega⟩
  have := flU_len r.us
  simp only [List.size_toArray]
  omega
theorem Wo.zero (e : n = 0) : Wo w0 w F G a n := fun h => by omega
/-- What may be written: the cell that is there, and what stands behind the write. -/
theorem Wo.at' (h : Wo w0 w F G a n) {i : Nat} (hi : i < n) {j : Nat} (hj : j < 4) : ∃ g v, a = some ⟨g, 0, none⟩ ∧ w.cell? ⟨g, i * 4 + j, none⟩ = some v ∧ w.frozen? ⟨g, i * 4 + j, none⟩ = false ∧ ¬ F g ∧ ¬ G g ∧ w0.heap.size ≤ g ∧ ∃ cur, w.heap[g]? = some (.cells cur 47 (0, 0)) := by
  obtain ⟨g, e, ⟨cur, hc, hs⟩, h1, h2, h3⟩ := h (by omega)
  have hl : i * 4 + j < cur.size := by omega
  exact ⟨g, cur[i * 4 + j], e, by simp [World.cell?, hc, Array.getElem?_eq_getElem hl], by simp [World.frozen?, hc], h1, h2, h3, cur, hc⟩
theorem Cp.setnew (h : Cp 53 Pc 37 Pd w0 w b d F G c L L) {g : Nat} (h0 : w0.heap.size ≤ g) (h1 : ¬ F g) (h2 : ¬ G g) (i : Nat) (x : Value) : Cp 53 Pc 37 Pd w0 (w.setCell ⟨g, i, none⟩ x) b d F G c L L :=
  ⟨h.bel.setCell h0 _, h.j.setnew h1 _ _, h.m.setnew h2 _ _, h.dis⟩
/-- Within the law, behind At. -/
structure St (w0 w : World) (b d : Nat) (F G : Nat → Prop) (c : Int) (L : List Cr) (p : Nat) (ro rn : Int) (ra : Option Addr) (rl rc : Nat) : Prop where
  cp : Cp 53 Pc 37 Pd w0 w b d F G c L L
  r : Wo w0 w F G ra rl
  rb : Rb w p ro rn ra rl rc
theorem St.next {p : Nat} {ro rn : Int} {ra : Option Addr} {rl rc : Nat} (h : St w0 w b d F G c L p ro rn ra rl rc) (hb : Below w.heap.size w w') : St w0 w' b d F G c L p ro rn ra rl rc := ⟨h.cp.next hb, h.r.next hb, h.rb.next hb⟩
theorem St.set {p : Nat} {ro rn : Int} {ra : Option Addr} {rl rc : Nat} (h : St w0 w b d F G c L p ro rn ra rl rc) {g : Nat} (h1 : ¬ F g) (h2 : ¬ G g) (h3 : w0.heap.size ≤ g) (ht : ∃ cur, w.heap[g]? = some (.cells cur 47 (0, 0))) (i : Nat) (x : Value) : St w0 (w.setCell ⟨g, i, none⟩ x) b d F G c L p ro rn ra rl rc := by
  obtain ⟨cur, hc⟩ := ht
  exact ⟨h.cp.setnew h3 h1 h2 _ _, h.r.set _ _ _, h.rb.setnew (two_types h.rb hc (by decide)) _ _⟩
/-- Within the law, behind All. -/
structure Sq (w0 w : World) (b d : Nat) (F G : Nat → Prop) (c : Int) (L : List Cr) (gx : Nat) (xs : List Rn) : Prop where
  cp : Cp 53 Pc 37 Pd w0 w b d F G c L L
  z : Rz w gx xs
  each : ∀ r ∈ xs, Wo w0 w F G r.a r.len
theorem Sq.next {gx : Nat} {xs : List Rn} (h : Sq w0 w b d F G c L gx xs) (hb : Below w.heap.size w w') : Sq w0 w' b d F G c L gx xs := ⟨h.cp.next hb, h.z.next hb, fun r hr => (h.each r hr).next hb⟩
theorem Sq.set {gx : Nat} {xs : List Rn} (h : Sq w0 w b d F G c L gx xs) {g : Nat} (h1 : ¬ F g) (h2 : ¬ G g) (h3 : w0.heap.size ≤ g) (ht : ∃ cur, w.heap[g]? = some (.cells cur 47 (0, 0))) (i : Nat) (x : Value) : Sq w0 (w.setCell ⟨g, i, none⟩ x) b d F G c L gx xs := by
  obtain ⟨cur, hc⟩ := ht
  have hne : gx ≠ g := two_types h.z hc (by decide)
  exact ⟨h.cp.setnew h3 h1 h2 _ _, (Below.heap_setCell _ _ _ _ hne).trans h.z, fun r hr => (h.each r hr).set _ _ _⟩
theorem own_fg (h : Cp 53 Pc 37 Pd w0 w b d F G c L L) (hr : Own w.heap.size w' r) : Wo w0 w' F G r.a r.len :=
  Wo.ofOwn hr (fun hx => by
    obtain ⟨g, e, hk⟩ := hx
    obtain ⟨g', e', _, hg', _⟩ := hr
    rw [e'] at e
    cases e
    have := (h.j.foot _ hk).2
    omega) (fun k hk => (h.m.foot k hk).2) h.bel.size
end
set_option maxHeartbeats 16000000 in
theorem walkRounds (c0 : Int) (a : Option Addr) (len cap : Nat) (rs : List Rn) (x0 x1 : Int) (v : World) (h : IsRs v a len rs) :
    Calls Try.prog 4 #[.int .i64 c0, .slice a len cap, .agg #[.int .i64 x0, .int .i64 x1]] v fun e w' => e = .returned (.bool true) ∧ Below v.heap.size v w' := by
  obtain ⟨w, hw⟩ : ∃ X, X = v.alloc (.cells #[.int .i64 x0, .int .i64 x1] 41) := ⟨_, rfl⟩
  have hbX : Below v.heap.size v w := by rw [hw]; exact Joins.below_alloc1 _ _
  have hxX : w.heap[v.heap.size]? = some (.cells #[.int .i64 x0, .int .i64 x1] 41 (0, 0)) := by rw [hw]; exact heap_alloc_new _ _
  have HBX := Lib.hid hbX
  have H := Lib.hid (isRs_below h hbX)
  have hsz := h.size
  have HCX : Hid (∀ W, Below w.heap.size w W → W.cell? ⟨v.heap.size, 0, none⟩ = some (.int .i64 x0) ∧ W.cell? ⟨v.heap.size, 1, none⟩ = some (.int .i64 x1)) := Lib.hid fun W hW => by
    have hl : v.heap.size < w.heap.size := (Array.getElem?_eq_some_iff.1 hxX).1
    have h2 := (hW.block _ hl).trans hxX
    exact ⟨cell_at h2 0 _ rfl, cell_at h2 1 _ rfl⟩
  clear h hbX hxX
  go_enter Try.func4, Try.ntmps4
  go_wp2_with fail
  rw [← hw]
  clear hw
  refine (cnew_any c0 w.heap.size w (Nat.le_refl _)).mono ?_
  rintro e w1 ⟨rfl, hj, hb⟩
  have HJ0 := Lib.hid hj
  have HB0 := Lib.hid hb
  clear hj hb
  go_wp2_with fail
  refine (dnew_any c0 w.heap.size w1 HB0.out.size).mono ?_
  rintro e w2 ⟨rfl, hj, hb⟩
  have H1 : Hid (Cp 53 Pc 37 Pd w w2 w.heap.size w1.heap.size _ _ (clP c0) [] []) := Lib.hid ⟨Below.next HB0.out hb, HJ0.out.next hb, hj, fun k h1 h2 => by
    have := jf0 h1
    have := jf0 h2
    have := (HJ0.out.foot k h1).2
    omega⟩
  generalize Jf w.heap.size (.slice none 0 0) (fun _ => False) = F0 at H1
  generalize Jf w1.heap.size (.slice none 0 0) (fun _ => False) = G0 at H1
  clear hj hb HJ0 HB0
  generalize w1.heap.size = d at *
  generalize clP c0 = c at *
  by_cases hg : gRs rs
  · go_wp2_with fail
    refine (awake_any _).mono ?_
    rintro e w2 ⟨rfl, hb⟩
    have H2 := Lib.hid (H1.out.next hb)
    clear hb H1
    go_wp2_with fail
    refine (greatRs_yes a len cap rs hg _ (isRs_below H.out H2.out.bel)).mono ?_
    rintro e w3 ⟨rfl, hb⟩
    have H3 := Lib.hid (H2.out.next hb)
    clear hb H2
    go_wp2_with fail
    refine (awake_any _).mono ?_
    rintro e w4 ⟨rfl, hb⟩
    have H4 := Lib.hid (H3.out.next hb)
    clear hb H3
    go_wp2
    go_ret
    exact ⟨rfl, Below.next HBX.out H4.out.bel⟩
  obtain ⟨hl40, hgl⟩ := gRs_at hg
  have HG := Lib.hid hgl
  have HNG := fun w h => Lib.hid (greatRs_no a len cap rs hg w h)
  have hlen : len ≤ 40 := by omega
  clear hgl hl40 hg
  go_wp2_with fail
  refine (awake_any _).mono ?_
  rintro e w2 ⟨rfl, hb⟩
  have H2 := Lib.hid (H1.out.next hb)
  clear hb H1
  go_wp2_with fail
  refine (HNG _ (isRs_below H.out H2.out.bel)).out.mono ?_
  rintro e w3 ⟨rfl, hb⟩
  have H3 := Lib.hid (H2.out.next hb)
  clear hb H2 HNG
  go_wp2_with fail
  go_loopw [35] (fun v35 wr => ∃ k : Nat, k ≤ len ∧ v35 = .int .i64 k ∧ ∃ F G L, L = sofar c rs k ∧ Cp 53 Pc 37 Pd w wr w.heap.size d F G c L L) (fun v35 _ => len - (intOf v35).toNat)
  case atStart => exact ⟨0, Nat.zero_le _, rfl, F0, G0, [], rfl, H3.out⟩
  case round =>
    obtain ⟨k, hk, rfl, F, G, L, hL, hp⟩ := hrel
    clear H3
    by_cases hlt : k < len
    · obtain ⟨gb, off, rfl, d0, d1, d2, hru⟩ := rcells_of H.out hp.bel hlt
      obtain ⟨_, hsm⟩ := HG.out k (by omega)
      have HRU0 := Lib.hid hru
      have HG8 : Hid (∀ j, wr.heap.size ≤ j → ¬ G j) := Lib.hid fun j hj hG => by have := (hp.m.foot j hG).2; omega
      have hru2 := (hru.below hp.bel).below (Joins.below_alloc1 wr (.cells #[.int .i64 (rs.getD k rn0).o, .int .i64 (rs.getD k rn0).n, .slice (rs.getD k rn0).a (rs.getD k rn0).len (rs.getD k rn0).cap] 31))
      have hst := sofar_step c (rs := rs) (k := k) (by omega)
      have hsl := sofar_len c rs k
      rw [← hL] at hst hsl
      have HPA := Lib.hid (hp.next (Joins.below_alloc1 wr (.cells #[.int .i64 (rs.getD k rn0).o, .int .i64 (rs.getD k rn0).n, .slice (rs.getD k rn0).a (rs.getD k rn0).len (rs.getD k rn0).cap] 31)))
      have HF8 : Hid (∀ j, wr.heap.size ≤ j → ¬ F j) := Lib.hid fun j hj hF => by have := (hp.j.foot j hF).2; omega
      generalize rs.getD k rn0 = r at *
      obtain ⟨ro, rn, ra, rl, rc, rus⟩ := r
      simp only at d0 d1 d2 hsm hru2 HPA HRU0
      have HST := Lib.hid hst
      have HRU := Lib.hid hru2
      have HSM := Lib.hid hsm
      have h8 := Rb.new wr ro rn ra rl rc
      have HR8 := Lib.hid h8
      have e0 := h8.c0
      have e1 := h8.c1
      have e2 := h8.c2
      have hL1000 : L.length ≤ 1000 := by omega
      clear hru hru2 hst hp hL hsm h8
      go_wp2_with fail
      refine (cadd_any (L := L) hL1000 ⟨ro, rn, ra, rl, rc, rus⟩ HSM.out _ HRU.out HPA.out.j).mono ?_
      rintro e w3 ⟨rfl, F', hc⟩
      have h8 := HR8.out.left hc.lv (HF8.out _ (Nat.le_refl _))
      have e0' := h8.c0
      have e1' := h8.c1
      have e2' := h8.c2
      have HP3 := Lib.hid (HPA.out.com1 hc)
      have HRU3 : Hid (Ru w3 ⟨ro, rn, ra, rl, rc, rus⟩) := Lib.hid ((HRU0.out.below HP3.out.bel))
      clear hc h8 e0 e1 e2
      go_wp2_with fail
      refine (dadd_any (L := L) hL1000 ⟨ro, rn, ra, rl, rc, rus⟩ HSM.out _ HRU3.out HP3.out.m).mono ?_
      rintro e w4 ⟨rfl, G', hc⟩
      have HP4 := Lib.hid (HP3.out.com2 hc)
      clear hc
      go_wp2
      go_roundw
      case rel => exact ⟨k + 1, by omega, by go_num, F', G', _, HST.out.symm, HP4.out⟩
      case measure => simp [intOf]; omega
    · obtain rfl : len = k := by omega
      have hsl := sofar_len c rs len
      rw [← hL] at hsl
      have hsml := hp.j.sm
      obtain ⟨am, cm, rm, hc1, hrm, hem, hcW⟩ := hp.m.open'
      obtain ⟨M, hM⟩ : ∃ M, L.length = M := ⟨_, rfl⟩
      rw [hM] at hc1 hrm hcW
      have hM40 : M ≤ 40 := by omega
      have hTB := fun W h => dlast_any (L := L) (B := w.heap.size) (b := d) (F := G) (c := c) x1 (by omega) W h
      have hTA := fun W h => clast_any (L := L) (B := w.heap.size) (b := w.heap.size) (F := F) (c := c) x1 W h
      obtain ⟨z, hz⟩ : ∃ z, lastL x1 L = z := ⟨_, rfl⟩
      rw [hz] at hTA hTB
      have HTA := Lib.hid hTA
      have HTB := Lib.hid hTB
      have HRM := Lib.hid hrm
      have HEM := Lib.hid hem
      have HCW := Lib.hid hcW
      have HSM0 := Lib.hid hsml
      have HM := Lib.hid hM
      clear hL hsl hsml hrm hem hcW hTA hTB hz
      by_cases h1 : x0 < 0
      · clear hM hc1
        have hAT := cat_out (L := L) x0 (by rw [HM.out]; omega) wr hp.j
        have HAT := Lib.hid hAT
        have HP := Lib.hid hp
        have hx0 := (HCX.out wr hp.bel).1
        clear hp hAT
        go_wp2_with fail
        refine HAT.out.mono ?_
        rintro e w3 ⟨rfl, hb⟩
        simp only [rv, rn0]
        have hbA := Joins.below_alloc1 w3 (.cells #[.int .i64 0, .int .i64 0, .slice none 0 0] 31)
        have HB4 := Lib.hid (Below.next hb hbA)
        have HS4 : Hid (St w (w3.alloc (.cells #[.int .i64 0, .int .i64 0, .slice none 0 0] 31)) w.heap.size d F G c L w3.heap.size 0 0 none 0 0) := Lib.hid ⟨(HP.out.next hb).next hbA, Wo.zero rfl, Rb.new w3 0 0 none 0 0⟩
        have HK : Hid (∀ W, Below (w3.alloc (.cells #[.int .i64 0, .int .i64 0, .slice none 0 0] 31)).heap.size (w3.alloc (.cells #[.int .i64 0, .int .i64 0, .slice none 0 0] 31)) W → (W.cell? ⟨w3.heap.size, 0, none⟩ = some (.int .i64 0) ∧ W.cell? ⟨w3.heap.size, 1, none⟩ = some (.int .i64 0) ∧ W.cell? ⟨w3.heap.size, 2, none⟩ = some (.slice none 0 0)) ∧ W.cell? ⟨d, 1, none⟩ = some (.slice am M cm) ∧ W.cell? ⟨v.heap.size, 0, none⟩ = some (.int .i64 x0) ∧ W.cell? ⟨v.heap.size, 1, none⟩ = some (.int .i64 x1)) := Lib.hid fun W hW => ⟨⟨(HS4.out.rb.next hW).c0, (HS4.out.rb.next hW).c1, (HS4.out.rb.next hW).c2⟩, HCW.out W (Below.next HB4.out hW), HCX.out W (Below.next HS4.out.cp.bel hW)⟩
        have HDS := fun W h1 h2 => Lib.hid (ds_yes 0 0 none none 0 0 0 [] (by omega) W h1 h2)
        have hz := HK.out _ (Below.refl _ _)
        obtain ⟨⟨j1, j2, j3⟩, j7, j8, j9⟩ := hz
        have q1 : decide ((0 : Int) ≤ x0) = false := decide_eq_false (by omega)
        clear hb hbA hx0 HAT HP
        go_wp2_with fail
        generalize w3.heap.size = p11 at *
        go_quiet (fail)
        revert nq
        intro n1
        have hb5 := belN (Below.refl (w3.alloc (.cells #[.int .i64 0, .int .i64 0, .slice none 0 0] 31)).heap.size (w3.alloc (.cells #[.int .i64 0, .int .i64 0, .slice none 0 0] 31))) n1
        have HS5 := Lib.hid (HS4.out.next hb5)
        have HK5 : Hid (∀ W, Below ((w3.alloc (.cells #[.int .i64 0, .int .i64 0, .slice none 0 0] 31)).drewN n1).heap.size ((w3.alloc (.cells #[.int .i64 0, .int .i64 0, .slice none 0 0] 31)).drewN n1) W → (W.cell? ⟨p11, 0, none⟩ = some (.int .i64 0) ∧ W.cell? ⟨p11, 1, none⟩ = some (.int .i64 0) ∧ W.cell? ⟨p11, 2, none⟩ = some (.slice none 0 0)) ∧ W.cell? ⟨d, 1, none⟩ = some (.slice am M cm) ∧ W.cell? ⟨v.heap.size, 0, none⟩ = some (.int .i64 x0) ∧ W.cell? ⟨v.heap.size, 1, none⟩ = some (.int .i64 x1)) := Lib.hid fun W hW => HK.out W (Below.next hb5 hW)
        generalize (w3.alloc (.cells #[.int .i64 0, .int .i64 0, .slice none 0 0] 31)).drewN n1 = w5 at *
        have k5 := HK5.out w5.drew (Below.refl _ _).drew
        clear hb5 HK HS4 HB4 j1 j2 j3 j7 j8 j9
        go_wp2_with fail
        refine wp_region_held_drew (S := fun w' => (w'.cell? ⟨p11, 0, none⟩ = some (.int .i64 0) ∧ w'.cell? ⟨p11, 1, none⟩ = some (.int .i64 0) ∧ w'.cell? ⟨p11, 2, none⟩ = some (.slice none 0 0)) ∧ w'.cell? ⟨d, 1, none⟩ = some (.slice am M cm) ∧ w'.cell? ⟨v.heap.size, 0, none⟩ = some (.int .i64 x0) ∧ w'.cell? ⟨v.heap.size, 1, none⟩ = some (.int .i64 x1)) (by kernel_rfl) ?_ (fun hH => ?_)
        · exact k5
        refine wpAnyH_take (i := 0) (oi := { dst := some 66, op := Go.Op.move (Go.Operand.tmp 12), type := 4, pos := "law.go:53", after := #[], guard := none }) (v := ?_) rfl (by kernel_rfl) (by kernel_rfl) (by kernel_rfl) (fun _ _ _ h => h) (Or.inl ⟨by rfl, ?_⟩) (by assumption) ?_
        rotate_left
        · intro w hSw
          try dsimp only at hSw
          obtain ⟨⟨q1, q2, q3⟩, q7, q8, q9⟩ := hSw
          go_simp
          all_goals with_reducible rfl
        try simp only [Act.put, List.setIfInBounds_toArray, List.set_cons_zero, List.set_cons_succ]
        refine wpAnyH_take (i := 1) (oi := { dst := some 67, op := Go.Op.move (Go.Operand.tmp 13), type := 4, pos := "law.go:53", after := #[], guard := none }) (v := ?_) rfl (by kernel_rfl) (by kernel_rfl) (by kernel_rfl) (fun _ _ _ h => h) (Or.inl ⟨by rfl, ?_⟩) (by assumption) ?_
        rotate_left
        · intro w hSw
          try dsimp only at hSw
          obtain ⟨⟨q1, q2, q3⟩, q7, q8, q9⟩ := hSw
          go_simp
          all_goals with_reducible rfl
        try simp only [Act.put, List.setIfInBounds_toArray, List.set_cons_zero, List.set_cons_succ]
        refine wpAnyH_take (i := 2) (oi := { dst := some 68, op := Go.Op.binOp Go.BinOp.neq 4 (Go.Operand.tmp 66) (Go.Operand.tmp 67) 4, type := 4, pos := "law.go:53", after := #[{ on := 0, ground := Go.Ground.data }, { on := 1, ground := Go.Ground.data }], guard := none }) (v := ?_) rfl (by kernel_rfl) (by kernel_rfl) (by kernel_rfl) (fun _ _ _ h => h) (Or.inl ⟨by rfl, ?_⟩) (by assumption) ?_
        rotate_left
        · intro w hSw
          try dsimp only at hSw
          obtain ⟨⟨q1, q2, q3⟩, q7, q8, q9⟩ := hSw
          go_simp
          all_goals with_reducible rfl
        try simp only [Act.put, List.setIfInBounds_toArray, List.set_cons_zero, List.set_cons_succ]
        refine wpAnyH_take (i := 3) (oi := { dst := some 69, op := Go.Op.move (Go.Operand.tmp 68), type := 4, pos := "law.go:53", after := #[{ on := 2, ground := Go.Ground.data }], guard := none }) (v := ?_) rfl (by kernel_rfl) (by kernel_rfl) (by kernel_rfl) (fun _ _ _ h => h) (Or.inl ⟨by rfl, ?_⟩) (by assumption) ?_
        rotate_left
        · intro w hSw
          try dsimp only at hSw
          obtain ⟨⟨q1, q2, q3⟩, q7, q8, q9⟩ := hSw
          go_simp
          all_goals with_reducible rfl
        try simp only [Act.put, List.setIfInBounds_toArray, List.set_cons_zero, List.set_cons_succ]
        refine wpAnyH_take (i := 4) (oi := { dst := some 70, op := Go.Op.move (Go.Operand.tmp 13), type := 4, pos := "law.go:53", after := #[{ on := 3, ground := Go.Ground.guard }], guard := some (3, false) }) (v := ?_) rfl (by kernel_rfl) (by kernel_rfl) (by kernel_rfl) (fun _ _ _ h => h) (Or.inl ⟨by rfl, ?_⟩) (by assumption) ?_
        rotate_left
        · intro w hSw
          try dsimp only at hSw
          obtain ⟨⟨q1, q2, q3⟩, q7, q8, q9⟩ := hSw
          go_simp
          all_goals with_reducible rfl
        try simp only [Act.put, List.setIfInBounds_toArray, List.set_cons_zero, List.set_cons_succ]
        refine wpAnyH_take (i := 5) (oi := { dst := some 71, op := Go.Op.move (Go.Operand.tmp 70), type := 4, pos := "law.go:53", after := #[{ on := 4, ground := Go.Ground.data }, { on := 3, ground := Go.Ground.chain }, { on := 3, ground := Go.Ground.guard }], guard := some (3, false) }) (v := ?_) rfl (by kernel_rfl) (by kernel_rfl) (by kernel_rfl) (fun _ _ _ h => h) (Or.inl ⟨by rfl, ?_⟩) (by assumption) ?_
        rotate_left
        · intro w hSw
          try dsimp only at hSw
          obtain ⟨⟨q1, q2, q3⟩, q7, q8, q9⟩ := hSw
          go_simp
          all_goals with_reducible rfl
        try simp only [Act.put, List.setIfInBounds_toArray, List.set_cons_zero, List.set_cons_succ]
        refine wpAnyH_take (i := 6) (oi := { dst := some 72, op := Go.Op.load 31 (Go.Operand.tmp 11), type := 31, pos := "law.go:53", after := #[{ on := 5, ground := Go.Ground.guard }], guard := some (5, true) }) (v := undef) rfl (by kernel_rfl) (by kernel_rfl) (by kernel_rfl) (fun _ _ _ h => h) (Or.inr ⟨by rfl, rfl⟩) (by assumption) ?_
        try simp only [Act.put, List.setIfInBounds_toArray, List.set_cons_zero, List.set_cons_succ]
        refine wpAnyH_take (i := 7) (oi := { dst := some 73, op := Go.Op.move (Go.Operand.tmp 8), type := 25, pos := "law.go:53", after := #[{ on := 5, ground := Go.Ground.guard }], guard := some (5, true) }) (v := undef) rfl (by kernel_rfl) (by kernel_rfl) (by kernel_rfl) (fun _ _ _ h => h) (Or.inr ⟨by rfl, rfl⟩) (by assumption) ?_
        try simp only [Act.put, List.setIfInBounds_toArray, List.set_cons_zero, List.set_cons_succ]
        refine wpAnyH_take (i := 8) (oi := { dst := some 74, op := Go.Op.nilCheck (Go.Operand.tmp 73), type := 0, pos := "law.go:53", after := #[{ on := 7, ground := Go.Ground.data }, { on := 5, ground := Go.Ground.guard }], guard := some (5, true) }) (v := undef) rfl (by kernel_rfl) (by kernel_rfl) (by kernel_rfl) (fun _ _ _ h => h) (Or.inr ⟨by rfl, rfl⟩) (by assumption) ?_
        try simp only [Act.put, List.setIfInBounds_toArray, List.set_cons_zero, List.set_cons_succ]
        refine wpAnyH_take (i := 9) (oi := { dst := some 75, op := Go.Op.fieldAddr 37 (Go.Operand.tmp 74) 1, type := 0, pos := "law.go:53", after := #[{ on := 8, ground := Go.Ground.data }, { on := 5, ground := Go.Ground.guard }], guard := some (5, true) }) (v := undef) rfl (by kernel_rfl) (by kernel_rfl) (by kernel_rfl) (fun _ _ _ h => h) (Or.inr ⟨by rfl, rfl⟩) (by assumption) ?_
        try simp only [Act.put, List.setIfInBounds_toArray, List.set_cons_zero, List.set_cons_succ]
        refine wpAnyH_take (i := 10) (oi := { dst := some 76, op := Go.Op.load 22 (Go.Operand.tmp 75), type := 22, pos := "law.go:53", after := #[{ on := 9, ground := Go.Ground.data }, { on := 5, ground := Go.Ground.guard }], guard := some (5, true) }) (v := undef) rfl (by kernel_rfl) (by kernel_rfl) (by kernel_rfl) (fun _ _ _ h => h) (Or.inr ⟨by rfl, rfl⟩) (by assumption) ?_
        try simp only [Act.put, List.setIfInBounds_toArray, List.set_cons_zero, List.set_cons_succ]
        refine wpAnyH_take (i := 11) (oi := { dst := some 77, op := Go.Op.indexAddr 41 (Go.Operand.tmp 5) (Go.Operand.const (Go.Value.int Go.IntKind.i64 0)), type := 0, pos := "law.go:53", after := #[{ on := 5, ground := Go.Ground.guard }], guard := some (5, true) }) (v := undef) rfl (by kernel_rfl) (by kernel_rfl) (by kernel_rfl) (fun _ _ _ h => h) (Or.inr ⟨by rfl, rfl⟩) (by assumption) ?_
        try simp only [Act.put, List.setIfInBounds_toArray, List.set_cons_zero, List.set_cons_succ]
        refine wpAnyH_take (i := 12) (oi := { dst := some 78, op := Go.Op.load 3 (Go.Operand.tmp 77), type := 3, pos := "law.go:53", after := #[{ on := 11, ground := Go.Ground.data }, { on := 5, ground := Go.Ground.guard }], guard := some (5, true) }) (v := undef) rfl (by kernel_rfl) (by kernel_rfl) (by kernel_rfl) (fun _ _ _ h => h) (Or.inr ⟨by rfl, rfl⟩) (by assumption) ?_
        try simp only [Act.put, List.setIfInBounds_toArray, List.set_cons_zero, List.set_cons_succ]
        refine wpAnyH_take (i := 13) (oi := { dst := some 79, op := Go.Op.indexAddr 22 (Go.Operand.tmp 76) (Go.Operand.tmp 78), type := 0, pos := "law.go:53", after := #[{ on := 10, ground := Go.Ground.data }, { on := 12, ground := Go.Ground.data }, { on := 5, ground := Go.Ground.guard }], guard := some (5, true) }) (v := undef) rfl (by kernel_rfl) (by kernel_rfl) (by kernel_rfl) (fun _ _ _ h => h) (Or.inr ⟨by rfl, rfl⟩) (by assumption) ?_
        try simp only [Act.put, List.setIfInBounds_toArray, List.set_cons_zero, List.set_cons_succ]
        refine wpAnyH_take (i := 14) (oi := { dst := some 80, op := Go.Op.load 31 (Go.Operand.tmp 79), type := 31, pos := "law.go:53", after := #[{ on := 13, ground := Go.Ground.data }, { on := 5, ground := Go.Ground.guard }], guard := some (5, true) }) (v := undef) rfl (by kernel_rfl) (by kernel_rfl) (by kernel_rfl) (fun _ _ _ h => h) (Or.inr ⟨by rfl, rfl⟩) (by assumption) ?_
        try simp only [Act.put, List.setIfInBounds_toArray, List.set_cons_zero, List.set_cons_succ]
        refine wpAnyH_take (i := 15) (oi := { dst := some 81, op := Go.Op.call { callee := Go.Callee.value (Go.Operand.func 19), args := #[Go.Operand.tmp 72, Go.Operand.tmp 80], argTypes := #[31, 31] }, type := 4, pos := "law.go:53", after := #[{ on := 6, ground := Go.Ground.data }, { on := 14, ground := Go.Ground.data }, { on := 5, ground := Go.Ground.chain }, { on := 5, ground := Go.Ground.guard }], guard := some (5, true) }) (v := undef) rfl (by kernel_rfl) (by kernel_rfl) (by kernel_rfl) (fun _ _ _ h => h) (Or.inr ⟨by rfl, rfl⟩) (by assumption) ?_
        try simp only [Act.put, List.setIfInBounds_toArray, List.set_cons_zero, List.set_cons_succ]
        refine wpAnyH_take (i := 16) (oi := { dst := some 82, op := Go.Op.unOp Go.UnOp.not 4 (Go.Operand.tmp 81), type := 4, pos := "law.go:53", after := #[{ on := 15, ground := Go.Ground.data }, { on := 5, ground := Go.Ground.guard }], guard := some (5, true) }) (v := undef) rfl (by kernel_rfl) (by kernel_rfl) (by kernel_rfl) (fun _ _ _ h => h) (Or.inr ⟨by rfl, rfl⟩) (by assumption) ?_
        try simp only [Act.put, List.setIfInBounds_toArray, List.set_cons_zero, List.set_cons_succ]
        refine wpAnyH_take (i := 17) (oi := { dst := some 83, op := Go.Op.pick (Go.Operand.tmp 71) (Go.Operand.tmp 82) (Go.Operand.const (Go.Value.bool false)), type := 4, pos := "law.go:53", after := #[{ on := 5, ground := Go.Ground.data }, { on := 16, ground := Go.Ground.data }, { on := 3, ground := Go.Ground.guard }], guard := some (3, false) }) (v := ?_) rfl (by kernel_rfl) (by kernel_rfl) (by kernel_rfl) (fun _ _ _ h => h) (Or.inl ⟨by rfl, ?_⟩) (by assumption) ?_
        rotate_left
        · intro w hSw
          try dsimp only at hSw
          obtain ⟨⟨q1, q2, q3⟩, q7, q8, q9⟩ := hSw
          go_simp
          all_goals with_reducible rfl
        try simp only [Act.put, List.setIfInBounds_toArray, List.set_cons_zero, List.set_cons_succ]
        refine wpAnyH_take (i := 18) (oi := { dst := some 84, op := Go.Op.pick (Go.Operand.tmp 69) (Go.Operand.const (Go.Value.bool true)) (Go.Operand.tmp 83), type := 4, pos := "law.go:53", after := #[{ on := 3, ground := Go.Ground.data }, { on := 17, ground := Go.Ground.data }], guard := none }) (v := ?_) rfl (by kernel_rfl) (by kernel_rfl) (by kernel_rfl) (fun _ _ _ h => h) (Or.inl ⟨by rfl, ?_⟩) (by assumption) ?_
        rotate_left
        · intro w hSw
          try dsimp only at hSw
          obtain ⟨⟨q1, q2, q3⟩, q7, q8, q9⟩ := hSw
          go_simp
          all_goals with_reducible rfl
        try simp only [Act.put, List.setIfInBounds_toArray, List.set_cons_zero, List.set_cons_succ]
        refine wpAnyH_take (i := 19) (oi := { dst := some 85, op := Go.Op.move (Go.Operand.tmp 84), type := 4, pos := "law.go:53", after := #[{ on := 18, ground := Go.Ground.data }, { on := 15, ground := Go.Ground.chain }], guard := none }) (v := ?_) rfl (by kernel_rfl) (by kernel_rfl) (by kernel_rfl) (fun _ _ _ h => h) (Or.inl ⟨by rfl, ?_⟩) (by assumption) ?_
        rotate_left
        · intro w hSw
          try dsimp only at hSw
          obtain ⟨⟨q1, q2, q3⟩, q7, q8, q9⟩ := hSw
          go_simp
          all_goals with_reducible rfl
        try simp only [Act.put, List.setIfInBounds_toArray, List.set_cons_zero, List.set_cons_succ]
        refine wpAnyH_take (i := 20) (oi := { dst := some 86, op := Go.Op.move (Go.Operand.tmp 13), type := 4, pos := "law.go:53", after := #[{ on := 19, ground := Go.Ground.guard }], guard := some (19, false) }) (v := ?_) rfl (by kernel_rfl) (by kernel_rfl) (by kernel_rfl) (fun _ _ _ h => h) (Or.inl ⟨by rfl, ?_⟩) (by assumption) ?_
        rotate_left
        · intro w hSw
          try dsimp only at hSw
          obtain ⟨⟨q1, q2, q3⟩, q7, q8, q9⟩ := hSw
          go_simp
          all_goals with_reducible rfl
        try simp only [Act.put, List.setIfInBounds_toArray, List.set_cons_zero, List.set_cons_succ]
        refine wpAnyH_take (i := 21) (oi := { dst := some 87, op := Go.Op.unOp Go.UnOp.not 4 (Go.Operand.tmp 86), type := 4, pos := "law.go:53", after := #[{ on := 20, ground := Go.Ground.data }, { on := 19, ground := Go.Ground.guard }], guard := some (19, false) }) (v := ?_) rfl (by kernel_rfl) (by kernel_rfl) (by kernel_rfl) (fun _ _ _ h => h) (Or.inl ⟨by rfl, ?_⟩) (by assumption) ?_
        rotate_left
        · intro w hSw
          try dsimp only at hSw
          obtain ⟨⟨q1, q2, q3⟩, q7, q8, q9⟩ := hSw
          go_simp
          all_goals with_reducible rfl
        try simp only [Act.put, List.setIfInBounds_toArray, List.set_cons_zero, List.set_cons_succ]
        refine wpAnyH_take (i := 22) (oi := { dst := some 88, op := Go.Op.move (Go.Operand.tmp 87), type := 4, pos := "law.go:53", after := #[{ on := 21, ground := Go.Ground.data }, { on := 19, ground := Go.Ground.chain }, { on := 19, ground := Go.Ground.guard }], guard := some (19, false) }) (v := ?_) rfl (by kernel_rfl) (by kernel_rfl) (by kernel_rfl) (fun _ _ _ h => h) (Or.inl ⟨by rfl, ?_⟩) (by assumption) ?_
        rotate_left
        · intro w hSw
          try dsimp only at hSw
          obtain ⟨⟨q1, q2, q3⟩, q7, q8, q9⟩ := hSw
          go_simp
          all_goals with_reducible rfl
        try simp only [Act.put, List.setIfInBounds_toArray, List.set_cons_zero, List.set_cons_succ]
        refine wpAnyH_take (i := 23) (oi := { dst := some 89, op := Go.Op.load 31 (Go.Operand.tmp 11), type := 31, pos := "law.go:53", after := #[{ on := 22, ground := Go.Ground.guard }], guard := some (22, true) }) (v := ?_) rfl (by kernel_rfl) (by kernel_rfl) (by kernel_rfl) (fun _ _ _ h => h) (Or.inl ⟨by rfl, ?_⟩) (by assumption) ?_
        rotate_left
        · intro w hSw
          try dsimp only at hSw
          obtain ⟨⟨q1, q2, q3⟩, q7, q8, q9⟩ := hSw
          go_simp
          all_goals with_reducible rfl
        try simp only [Act.put, List.setIfInBounds_toArray, List.set_cons_zero, List.set_cons_succ]
        refine wpAnyH_take (i := 24) (oi := { dst := some 90, op := Go.Op.build 31 #[], type := 31, pos := "law.go:53", after := #[{ on := 22, ground := Go.Ground.guard }], guard := some (22, true) }) (v := ?_) rfl (by kernel_rfl) (by kernel_rfl) (by kernel_rfl) (fun _ _ _ h => h) (Or.inl ⟨by rfl, ?_⟩) (by assumption) ?_
        rotate_left
        · intro w hSw
          try dsimp only at hSw
          obtain ⟨⟨q1, q2, q3⟩, q7, q8, q9⟩ := hSw
          go_simp
          all_goals with_reducible rfl
        try simp only [Act.put, List.setIfInBounds_toArray, List.set_cons_zero, List.set_cons_succ]
        refine wpAnyH_ready (rs := [25]) (by kernel_rfl) (by simp) ?_
        refine AllReadyH.cons (o := { dst := some 91, op := Go.Op.call { callee := Go.Callee.value (Go.Operand.func 19), args := #[Go.Operand.tmp 89, Go.Operand.tmp 90], argTypes := #[31, 31] }, type := 4, pos := "law.go:53", after := #[{ on := 23, ground := Go.Ground.data }, { on := 24, ground := Go.Ground.data }, { on := 22, ground := Go.Ground.chain }, { on := 22, ground := Go.Ground.guard }], guard := some (22, true) }) rfl (fun K hK => ?_) ?_
        · go_simp
          refine (HDS w5.drew (isUs_nil _) (isUs_nil _)).out.mono ?_
          rintro e w6 ⟨rfl, hb'⟩
          have hb : Below w5.heap.size w5 w6 := ⟨hb'.os, hb'.tape, hb'.output, hb'.size, hb'.block⟩
          have HS6 := Lib.hid (HS5.out.next hb)
          have k6 := HK5.out _ hb
          clear hb hb'
          go_wp2_with fail
          refine hK.out _ _ ?_ (fun hH => ?_)
          · exact k6
          clear hK K
          try simp only [Act.put, List.setIfInBounds_toArray, List.set_cons_zero, List.set_cons_succ]
          refine wpAnyH_take (i := 26) (oi := { dst := some 92, op := Go.Op.unOp Go.UnOp.not 4 (Go.Operand.tmp 91), type := 4, pos := "law.go:53", after := #[{ on := 25, ground := Go.Ground.data }, { on := 22, ground := Go.Ground.guard }], guard := some (22, true) }) (v := ?_) rfl (by kernel_rfl) (by kernel_rfl) (by kernel_rfl) (fun _ _ _ h => h) (Or.inl ⟨by rfl, ?_⟩) (by assumption) ?_
          rotate_left
          · intro w hSw
            try dsimp only at hSw
            obtain ⟨⟨q1, q2, q3⟩, q7, q8, q9⟩ := hSw
            go_simp
            all_goals with_reducible rfl
          try simp only [Act.put, List.setIfInBounds_toArray, List.set_cons_zero, List.set_cons_succ]
          refine wpAnyH_take (i := 27) (oi := { dst := some 93, op := Go.Op.pick (Go.Operand.tmp 88) (Go.Operand.tmp 92) (Go.Operand.const (Go.Value.bool false)), type := 4, pos := "law.go:53", after := #[{ on := 22, ground := Go.Ground.data }, { on := 26, ground := Go.Ground.data }, { on := 19, ground := Go.Ground.guard }], guard := some (19, false) }) (v := ?_) rfl (by kernel_rfl) (by kernel_rfl) (by kernel_rfl) (fun _ _ _ h => h) (Or.inl ⟨by rfl, ?_⟩) (by assumption) ?_
          rotate_left
          · intro w hSw
            try dsimp only at hSw
            obtain ⟨⟨q1, q2, q3⟩, q7, q8, q9⟩ := hSw
            go_simp
            all_goals with_reducible rfl
          try simp only [Act.put, List.setIfInBounds_toArray, List.set_cons_zero, List.set_cons_succ]
          refine wpAnyH_take (i := 28) (oi := { dst := some 94, op := Go.Op.pick (Go.Operand.tmp 85) (Go.Operand.const (Go.Value.bool true)) (Go.Operand.tmp 93), type := 4, pos := "law.go:53", after := #[{ on := 19, ground := Go.Ground.data }, { on := 27, ground := Go.Ground.data }], guard := none }) (v := ?_) rfl (by kernel_rfl) (by kernel_rfl) (by kernel_rfl) (fun _ _ _ h => h) (Or.inl ⟨by rfl, ?_⟩) (by assumption) ?_
          rotate_left
          · intro w hSw
            try dsimp only at hSw
            obtain ⟨⟨q1, q2, q3⟩, q7, q8, q9⟩ := hSw
            go_simp
            all_goals with_reducible rfl
          try simp only [Act.put, List.setIfInBounds_toArray, List.set_cons_zero, List.set_cons_succ]
          refine wpAnyH_take (i := 29) (oi := { dst := some 95, op := Go.Op.move (Go.Operand.tmp 94), type := 4, pos := "law.go:53", after := #[{ on := 28, ground := Go.Ground.data }, { on := 25, ground := Go.Ground.chain }], guard := none }) (v := ?_) rfl (by kernel_rfl) (by kernel_rfl) (by kernel_rfl) (fun _ _ _ h => h) (Or.inl ⟨by rfl, ?_⟩) (by assumption) ?_
          rotate_left
          · intro w hSw
            try dsimp only at hSw
            obtain ⟨⟨q1, q2, q3⟩, q7, q8, q9⟩ := hSw
            go_simp
            all_goals with_reducible rfl
          try simp only [Act.put, List.setIfInBounds_toArray, List.set_cons_zero, List.set_cons_succ]
          refine wpAnyH_take (i := 30) (oi := { dst := some 96, op := Go.Op.move (Go.Operand.tmp 7), type := 23, pos := "law.go:53", after := #[{ on := 29, ground := Go.Ground.guard }], guard := some (29, false) }) (v := ?_) rfl (by kernel_rfl) (by kernel_rfl) (by kernel_rfl) (fun _ _ _ h => h) (Or.inl ⟨by rfl, ?_⟩) (by assumption) ?_
          rotate_left
          · intro w hSw
            try dsimp only at hSw
            obtain ⟨⟨q1, q2, q3⟩, q7, q8, q9⟩ := hSw
            go_simp
            all_goals with_reducible rfl
          try simp only [Act.put, List.setIfInBounds_toArray, List.set_cons_zero, List.set_cons_succ]
          refine wpAnyH_take (i := 31) (oi := { dst := some 97, op := Go.Op.indexAddr 41 (Go.Operand.tmp 5) (Go.Operand.const (Go.Value.int Go.IntKind.i64 1)), type := 0, pos := "law.go:53", after := #[{ on := 29, ground := Go.Ground.guard }], guard := some (29, false) }) (v := ?_) rfl (by kernel_rfl) (by kernel_rfl) (by kernel_rfl) (fun _ _ _ h => h) (Or.inl ⟨by rfl, ?_⟩) (by assumption) ?_
          rotate_left
          · intro w hSw
            try dsimp only at hSw
            obtain ⟨⟨q1, q2, q3⟩, q7, q8, q9⟩ := hSw
            go_simp
            all_goals with_reducible rfl
          try simp only [Act.put, List.setIfInBounds_toArray, List.set_cons_zero, List.set_cons_succ]
          refine wpAnyH_take (i := 32) (oi := { dst := some 98, op := Go.Op.load 3 (Go.Operand.tmp 97), type := 3, pos := "law.go:53", after := #[{ on := 31, ground := Go.Ground.data }, { on := 29, ground := Go.Ground.guard }], guard := some (29, false) }) (v := ?_) rfl (by kernel_rfl) (by kernel_rfl) (by kernel_rfl) (fun _ _ _ h => h) (Or.inl ⟨by rfl, ?_⟩) (by assumption) ?_
          rotate_left
          · intro w hSw
            try dsimp only at hSw
            obtain ⟨⟨q1, q2, q3⟩, q7, q8, q9⟩ := hSw
            go_simp
            all_goals with_reducible rfl
          try simp only [Act.put, List.setIfInBounds_toArray, List.set_cons_zero, List.set_cons_succ]
          refine wpAnyH_take (i := 34) (oi := { dst := some 100, op := Go.Op.move (Go.Operand.tmp 8), type := 25, pos := "law.go:53", after := #[{ on := 29, ground := Go.Ground.guard }], guard := some (29, false) }) (v := ?_) rfl (by kernel_rfl) (by kernel_rfl) (by kernel_rfl) (fun _ _ _ h => h) (Or.inl ⟨by rfl, ?_⟩) (by assumption) ?_
          rotate_left
          · intro w hSw
            try dsimp only at hSw
            obtain ⟨⟨q1, q2, q3⟩, q7, q8, q9⟩ := hSw
            go_simp
            all_goals with_reducible rfl
          try simp only [Act.put, List.setIfInBounds_toArray, List.set_cons_zero, List.set_cons_succ]
          refine wpAnyH_take (i := 35) (oi := { dst := some 101, op := Go.Op.indexAddr 41 (Go.Operand.tmp 5) (Go.Operand.const (Go.Value.int Go.IntKind.i64 1)), type := 0, pos := "law.go:53", after := #[{ on := 29, ground := Go.Ground.guard }], guard := some (29, false) }) (v := ?_) rfl (by kernel_rfl) (by kernel_rfl) (by kernel_rfl) (fun _ _ _ h => h) (Or.inl ⟨by rfl, ?_⟩) (by assumption) ?_
          rotate_left
          · intro w hSw
            try dsimp only at hSw
            obtain ⟨⟨q1, q2, q3⟩, q7, q8, q9⟩ := hSw
            go_simp
            all_goals with_reducible rfl
          try simp only [Act.put, List.setIfInBounds_toArray, List.set_cons_zero, List.set_cons_succ]
          refine wpAnyH_take (i := 36) (oi := { dst := some 102, op := Go.Op.load 3 (Go.Operand.tmp 101), type := 3, pos := "law.go:53", after := #[{ on := 35, ground := Go.Ground.data }, { on := 29, ground := Go.Ground.guard }], guard := some (29, false) }) (v := ?_) rfl (by kernel_rfl) (by kernel_rfl) (by kernel_rfl) (fun _ _ _ h => h) (Or.inl ⟨by rfl, ?_⟩) (by assumption) ?_
          rotate_left
          · intro w hSw
            try dsimp only at hSw
            obtain ⟨⟨q1, q2, q3⟩, q7, q8, q9⟩ := hSw
            go_simp
            all_goals with_reducible rfl
          try simp only [Act.put, List.setIfInBounds_toArray, List.set_cons_zero, List.set_cons_succ]
          refine wpAnyH_ready (rs := [33]) (by kernel_rfl) (by simp) ?_
          refine AllReadyH.cons (o := { dst := some 99, op := Go.Op.call { callee := Go.Callee.value (Go.Operand.func 20), args := #[Go.Operand.tmp 96, Go.Operand.tmp 98], argTypes := #[23, 3] }, type := 3, pos := "law.go:53", after := #[{ on := 30, ground := Go.Ground.data }, { on := 32, ground := Go.Ground.data }, { on := 29, ground := Go.Ground.chain }, { on := 29, ground := Go.Ground.guard }], guard := some (29, false) }) rfl (fun K hK => ?_) ?_
          · go_simp
            refine (HTA.out w6 HS6.out.cp.j).mono ?_
            rintro e w10 ⟨rfl, rfl⟩
            go_wp2_with fail
            refine hK.out _ _ ?_ (fun hH => ?_)
            · exact k6
            clear hK K
            try simp only [Act.put, List.setIfInBounds_toArray, List.set_cons_zero, List.set_cons_succ]
            refine wpAnyH_ready (rs := [37]) (by kernel_rfl) (by simp) ?_
            refine AllReadyH.cons (o := { dst := some 103, op := Go.Op.call { callee := Go.Callee.value (Go.Operand.func 21), args := #[Go.Operand.tmp 100, Go.Operand.tmp 102], argTypes := #[25, 3] }, type := 3, pos := "law.go:53", after := #[{ on := 34, ground := Go.Ground.data }, { on := 36, ground := Go.Ground.data }, { on := 33, ground := Go.Ground.chain }, { on := 29, ground := Go.Ground.guard }], guard := some (29, false) }) rfl (fun K hK => ?_) ?_
            · go_simp
              refine (HTB.out w10 HS6.out.cp.m).mono ?_
              rintro e w11 ⟨rfl, rfl⟩
              go_wp2_with fail
              refine hK.out _ _ ?_ (fun hH => ?_)
              · exact k6
              clear hK K
              try simp only [Act.put, List.setIfInBounds_toArray, List.set_cons_zero, List.set_cons_succ]
              refine wpAnyH_take (i := 38) (oi := { dst := some 104, op := Go.Op.binOp Go.BinOp.neq 3 (Go.Operand.tmp 99) (Go.Operand.tmp 103) 3, type := 4, pos := "law.go:53", after := #[{ on := 33, ground := Go.Ground.data }, { on := 37, ground := Go.Ground.data }, { on := 29, ground := Go.Ground.guard }], guard := some (29, false) }) (v := ?_) rfl (by kernel_rfl) (by kernel_rfl) (by kernel_rfl) (fun _ _ _ h => h) (Or.inl ⟨by rfl, ?_⟩) (by assumption) ?_
              rotate_left
              · intro w hSw
                try dsimp only at hSw
                obtain ⟨⟨q1, q2, q3⟩, q7, q8, q9⟩ := hSw
                go_simp
                all_goals with_reducible rfl
              try simp only [Act.put, List.setIfInBounds_toArray, List.set_cons_zero, List.set_cons_succ]
              refine wpAnyH_take (i := 39) (oi := { dst := some 105, op := Go.Op.pick (Go.Operand.tmp 95) (Go.Operand.const (Go.Value.bool true)) (Go.Operand.tmp 104), type := 4, pos := "law.go:53", after := #[{ on := 29, ground := Go.Ground.data }, { on := 38, ground := Go.Ground.data }], guard := none }) (v := ?_) rfl (by kernel_rfl) (by kernel_rfl) (by kernel_rfl) (fun _ _ _ h => h) (Or.inl ⟨by rfl, ?_⟩) (by assumption) ?_
              rotate_left
              · intro w hSw
                try dsimp only at hSw
                obtain ⟨⟨q1, q2, q3⟩, q7, q8, q9⟩ := hSw
                go_simp
                all_goals with_reducible rfl
              try simp only [Act.put, List.setIfInBounds_toArray, List.set_cons_zero, List.set_cons_succ]
              refine wpAnyH_done (by kernel_rfl) ?_ _
              have HS := HS6
              clear k5 k6 HK5 HS5 HS6
              have d2 := HS.out.rb.c2
              go_wp2_with fail
              clear d2
              go_loopw [109] (fun v109 wz => ∃ j : Nat, j ≤ 0 ∧ v109 = .int .i64 j ∧ St w wz w.heap.size d F G c L p11 0 0 none 0 0) (fun v109 _ => 0 - (intOf v109).toNat)
              case atStart => exact ⟨0, Nat.zero_le _, rfl, HS.out⟩
              case round =>
                obtain ⟨j, hj, rfl, hs⟩ := hrel
                clear HS
                have d2 := hs.rb.c2
                by_cases hjl : j < 0
                · exact absurd hjl (by omega)
                · obtain rfl : j = 0 := by omega
                  have HP := Lib.hid hs.cp
                  clear hs
                  have HCA := fun W h => Lib.hid (call_any (L := L) (B := w.heap.size) (b := w.heap.size) (F := F) (c := c) (by rw [HM.out]; omega) W h)
                  rw [HM.out] at HCA
                  go_wp2_with fail
                  refine (HCA _ HP.out.j).out.mono ?_
                  rintro e w9 ⟨gx, xs, rfl, hz, _, hown, hof, hb⟩
                  have hxl := map_len hof
                  rw [HM.out] at hxl
                  have hq : Sq w w9 w.heap.size d F G c L gx xs := ⟨HP.out.next hb, hz, fun r hr => own_fg HP.out (hown r hr)⟩
                  have HQ := Lib.hid hq
                  have HXL : Hid (∀ r ∈ xs, r.len ≤ 1000) := Lib.hid fun r hr => by
                    obtain ⟨_, _, _, _, e1, _⟩ := hown r hr
                    have := (HSM0.out (kR r) (by rw [← hof]; exact List.mem_map.2 ⟨_, hr, rfl⟩)).1
                    rw [e1]
                    exact this
                  clear hz hown hof hb hq HP HCA d2
                  go_wp2_with fail
                  go_loopw [121] (fun v121 wz => ∃ n : Nat, n ≤ M ∧ v121 = .int .i64 n ∧ Sq w wz w.heap.size d F G c L gx xs) (fun v121 _ => M - (intOf v121).toNat)
                  case atStart => exact ⟨0, Nat.zero_le _, rfl, HQ.out⟩
                  case round =>
                    obtain ⟨n, hn, rfl, hq⟩ := hrel
                    clear HQ
                    by_cases hnl : n < M
                    · obtain ⟨d0, d1, d2⟩ := hq.z.row n (by omega)
                      have hmem : xs.getD n rn0 ∈ xs := rn_mem (by omega)
                      have hxl2 := HXL.out _ hmem
                      generalize hr : xs.getD n rn0 = x at *
                      obtain ⟨xo, xn, xa, xl, xc, xu⟩ := x
                      simp only at d0 d1 d2 hxl2
                      have hbA := Joins.below_alloc1 wr (.cells #[.int .i64 xo, .int .i64 xn, .slice xa xl xc] 31)
                      have HQ := Lib.hid (hq.next hbA)
                      have HRX := Lib.hid (Rb.new wr xo xn xa xl xc)
                      have HMEM := Lib.hid hmem
                      have h2 := HRX.out.c2
                      clear hq hbA hmem hr
                      go_wp2_with fail
                      generalize wr.heap.size = p13 at *
                      clear h2 d0 d1 d2
                      go_loopw [128] (fun v128 wy => ∃ m : Nat, m ≤ xl ∧ v128 = .int .i64 m ∧ Sq w wy w.heap.size d F G c L gx xs ∧ Rb wy p13 xo xn xa xl xc) (fun v128 _ => xl - (intOf v128).toNat)
                      case atStart => exact ⟨0, Nat.zero_le _, rfl, HQ.out, HRX.out⟩
                      case round =>
                        obtain ⟨m, hm, rfl, hq, hrx⟩ := hrel
                        clear HQ HRX
                        have d2 := hrx.c2
                        by_cases hml : m < xl
                        · obtain ⟨g, v0, e, d0, f0, x1, x2, x3, x4⟩ := (hq.each _ HMEM.out).at' hml (show 0 < 4 by omega)
                          simp only at e
                          subst e
                          rw [Nat.add_zero] at d0 f0
                          have HQ := Lib.hid (hq.set x1 x2 x3 x4 (m * 4) (.string ⟨#[101, 108, 115, 101]⟩))
                          have HRX := Lib.hid (hrx.setnew (two_types hrx x4.choose_spec (by decide)) (m * 4) (.string ⟨#[101, 108, 115, 101]⟩))
                          clear hq hrx x1 x2 x3 x4
                          go_wp2
                          go_roundw
                          case rel => exact ⟨m + 1, by omega, by go_num, HQ.out, HRX.out⟩
                          case measure => simp [intOf]; omega
                        · obtain rfl : m = xl := by omega
                          have HQ := Lib.hid hq
                          clear hq hrx d2
                          go_wp2
                          go_roundw
                          case rel => exact ⟨n + 1, by omega, by go_num, HQ.out⟩
                          case measure => simp [intOf]; omega
                    · obtain rfl : M = n := by omega
                      have hp := hq.cp
                      have hsml := hp.j.sm
                      obtain ⟨am, cm, rm, hc1, hrm, hem, hcW⟩ := hp.m.open'
                      rw [HM.out] at hc1 hrm hcW
                      have hCA := call_any (L := L) (B := w.heap.size) (b := w.heap.size) (F := F) (c := c) (by rw [HM.out]; omega) wr.drew hp.drew.j
                      rw [HM.out] at hCA
                      have HCA2 := Lib.hid hCA
                      have HRM := Lib.hid hrm
                      have HEM := Lib.hid hem
                      have HCW2 := Lib.hid hcW
                      have HSML := Lib.hid hsml
                      have HP := Lib.hid hp
                      have z9 := HCW2.out wr.drew (Below.refl _ _).drew
                      clear hp hq hsml hCA hrm hem hcW
                      go_wp2_with fail
                      refine wp_region_held_drew (S := fun w' => w'.cell? ⟨d, 1, none⟩ = some (.slice am M cm)) (by kernel_rfl) ?_ (fun hH => ?_)
                      · exact z9
                      refine wpAnyH_take (i := 0) (oi := { dst := some 138, op := Go.Op.move (Go.Operand.tmp 7), type := 23, pos := "law.go:64", after := #[], guard := none }) (v := ?_) rfl (by kernel_rfl) (by kernel_rfl) (by kernel_rfl) (fun _ _ _ h => h) (Or.inl ⟨by rfl, ?_⟩) (by assumption) ?_
                      rotate_left
                      · intro w hSw
                        try dsimp only at hSw
                        go_simp
                        all_goals with_reducible rfl
                      try simp only [Act.put, List.setIfInBounds_toArray, List.set_cons_zero, List.set_cons_succ]
                      refine wpAnyH_take (i := 2) (oi := { dst := some 140, op := Go.Op.move (Go.Operand.tmp 8), type := 25, pos := "law.go:64", after := #[], guard := none }) (v := ?_) rfl (by kernel_rfl) (by kernel_rfl) (by kernel_rfl) (fun _ _ _ h => h) (Or.inl ⟨by rfl, ?_⟩) (by assumption) ?_
                      rotate_left
                      · intro w hSw
                        try dsimp only at hSw
                        go_simp
                        all_goals with_reducible rfl
                      try simp only [Act.put, List.setIfInBounds_toArray, List.set_cons_zero, List.set_cons_succ]
                      refine wpAnyH_take (i := 3) (oi := { dst := some 141, op := Go.Op.nilCheck (Go.Operand.tmp 140), type := 0, pos := "law.go:64", after := #[{ on := 2, ground := Go.Ground.data }], guard := none }) (v := ?_) rfl (by kernel_rfl) (by kernel_rfl) (by kernel_rfl) (fun _ _ _ h => h) (Or.inl ⟨by rfl, ?_⟩) (by assumption) ?_
                      rotate_left
                      · intro w hSw
                        try dsimp only at hSw
                        go_simp
                        all_goals with_reducible rfl
                      try simp only [Act.put, List.setIfInBounds_toArray, List.set_cons_zero, List.set_cons_succ]
                      refine wpAnyH_take (i := 4) (oi := { dst := some 142, op := Go.Op.fieldAddr 37 (Go.Operand.tmp 141) 1, type := 0, pos := "law.go:64", after := #[{ on := 3, ground := Go.Ground.data }], guard := none }) (v := ?_) rfl (by kernel_rfl) (by kernel_rfl) (by kernel_rfl) (fun _ _ _ h => h) (Or.inl ⟨by rfl, ?_⟩) (by assumption) ?_
                      rotate_left
                      · intro w hSw
                        try dsimp only at hSw
                        go_simp
                        all_goals with_reducible rfl
                      try simp only [Act.put, List.setIfInBounds_toArray, List.set_cons_zero, List.set_cons_succ]
                      refine wpAnyH_take (i := 5) (oi := { dst := some 143, op := Go.Op.load 22 (Go.Operand.tmp 142), type := 22, pos := "law.go:64", after := #[{ on := 4, ground := Go.Ground.data }], guard := none }) (v := ?_) rfl (by kernel_rfl) (by kernel_rfl) (by kernel_rfl) (fun _ _ _ h => h) (Or.inl ⟨by rfl, ?_⟩) (by assumption) ?_
                      rotate_left
                      · intro w hSw
                        try dsimp only at hSw
                        go_simp
                        all_goals with_reducible rfl
                      try simp only [Act.put, List.setIfInBounds_toArray, List.set_cons_zero, List.set_cons_succ]
                      refine wpAnyH_ready (rs := [1]) (by kernel_rfl) (by simp) ?_
                      refine AllReadyH.cons (o := { dst := some 139, op := Go.Op.call { callee := Go.Callee.value (Go.Operand.func 17), args := #[Go.Operand.tmp 138], argTypes := #[23] }, type := 22, pos := "law.go:64", after := #[{ on := 0, ground := Go.Ground.data }], guard := none }) rfl (fun K hK => ?_) ?_
                      · go_simp
                        refine HCA2.out.mono ?_
                        rintro e w5 ⟨g, ys, rfl, hrz, _, how, hxs, hb'⟩
                        have hb : Below wr.heap.size wr w5 := ⟨hb'.os, hb'.tape, hb'.output, hb'.size, hb'.block⟩
                        have hxl := map_len hxs
                        rw [HM.out] at hxl
                        have hix := rz_is hrz how
                        rw [hxl] at hix
                        have HP5 := Lib.hid (HP.out.next hb)
                        have HSA := Lib.hid (sameall_yes (some ⟨g, 0, none⟩) am M M cm ys rm (by omega) (alk_of (hxs.trans HEM.out.symm) M) (fun i hi => us_le HSML.out hxs i (by omega)) w5 hix (isRs_below HRM.out hb))
                        have z5 := HCW2.out w5 hb
                        have HB5 := Lib.hid hb
                        clear hrz how hxs hb' hb hxl hix HP
                        go_wp2_with fail
                        refine hK.out _ _ ?_ (fun hH => ?_)
                        · exact z5
                        clear hK K
                        try simp only [Act.put, List.setIfInBounds_toArray, List.set_cons_zero, List.set_cons_succ]
                        refine wpAnyH_ready (rs := [6]) (by kernel_rfl) (by simp) ?_
                        refine AllReadyH.cons (o := { dst := some 144, op := Go.Op.call { callee := Go.Callee.value (Go.Operand.func 16), args := #[Go.Operand.tmp 139, Go.Operand.tmp 143], argTypes := #[22, 22] }, type := 4, pos := "law.go:64", after := #[{ on := 1, ground := Go.Ground.data }, { on := 5, ground := Go.Ground.data }, { on := 1, ground := Go.Ground.chain }], guard := none }) rfl (fun K hK => ?_) ?_
                        · go_simp
                          refine HSA.out.mono ?_
                          rintro e w6 ⟨rfl, hb⟩
                          have HP6 := Lib.hid (HP5.out.next hb)
                          have z6 := HCW2.out w6 (Below.next HB5.out hb)
                          clear hb
                          go_wp2_with fail
                          refine hK.out _ _ ?_ (fun hH => ?_)
                          · exact z6
                          clear hK K
                          try simp only [Act.put, List.setIfInBounds_toArray, List.set_cons_zero, List.set_cons_succ]
                          refine wpAnyH_take (i := 7) (oi := { dst := some 6, op := Go.Op.assign (Go.Operand.tmp 144), type := 4, pos := "law.go:64", after := #[{ on := 6, ground := Go.Ground.data }, { on := 6, ground := Go.Ground.chain }, { on := 0, ground := Go.Ground.phase }, { on := 1, ground := Go.Ground.phase }, { on := 2, ground := Go.Ground.phase }, { on := 3, ground := Go.Ground.phase }, { on := 4, ground := Go.Ground.phase }, { on := 5, ground := Go.Ground.phase }, { on := 6, ground := Go.Ground.phase }], guard := none }) (v := ?_) rfl (by kernel_rfl) (by kernel_rfl) (by kernel_rfl) (fun _ _ _ h => h) (Or.inl ⟨by rfl, ?_⟩) (by assumption) ?_
                          rotate_left
                          · intro w hSw
                            try dsimp only at hSw
                            go_simp
                            all_goals with_reducible rfl
                          try simp only [Act.put, List.setIfInBounds_toArray, List.set_cons_zero, List.set_cons_succ]
                          refine wpAnyH_done (by kernel_rfl) ?_ _
                          clear z6 z5 z9
                          go_wp2
                          go_ret
                          exact ⟨rfl, Below.next HBX.out HP6.out.bel⟩
                        exact AllReadyH.nil
                      exact AllReadyH.nil
            exact AllReadyH.nil
          exact AllReadyH.nil
        exact AllReadyH.nil
      by_cases h2 : (M : Int) ≤ x0
      · clear hM hc1
        have hAT := cat_out (L := L) x0 (by rw [HM.out]; omega) wr hp.j
        have HAT := Lib.hid hAT
        have HP := Lib.hid hp
        have hx0 := (HCX.out wr hp.bel).1
        clear hp hAT
        go_wp2_with fail
        refine HAT.out.mono ?_
        rintro e w3 ⟨rfl, hb⟩
        simp only [rv, rn0]
        have hbA := Joins.below_alloc1 w3 (.cells #[.int .i64 0, .int .i64 0, .slice none 0 0] 31)
        have HB4 := Lib.hid (Below.next hb hbA)
        have HS4 : Hid (St w (w3.alloc (.cells #[.int .i64 0, .int .i64 0, .slice none 0 0] 31)) w.heap.size d F G c L w3.heap.size 0 0 none 0 0) := Lib.hid ⟨(HP.out.next hb).next hbA, Wo.zero rfl, Rb.new w3 0 0 none 0 0⟩
        have HK : Hid (∀ W, Below (w3.alloc (.cells #[.int .i64 0, .int .i64 0, .slice none 0 0] 31)).heap.size (w3.alloc (.cells #[.int .i64 0, .int .i64 0, .slice none 0 0] 31)) W → (W.cell? ⟨w3.heap.size, 0, none⟩ = some (.int .i64 0) ∧ W.cell? ⟨w3.heap.size, 1, none⟩ = some (.int .i64 0) ∧ W.cell? ⟨w3.heap.size, 2, none⟩ = some (.slice none 0 0)) ∧ W.cell? ⟨d, 1, none⟩ = some (.slice am M cm) ∧ W.cell? ⟨v.heap.size, 0, none⟩ = some (.int .i64 x0) ∧ W.cell? ⟨v.heap.size, 1, none⟩ = some (.int .i64 x1)) := Lib.hid fun W hW => ⟨⟨(HS4.out.rb.next hW).c0, (HS4.out.rb.next hW).c1, (HS4.out.rb.next hW).c2⟩, HCW.out W (Below.next HB4.out hW), HCX.out W (Below.next HS4.out.cp.bel hW)⟩
        have HDS := fun W h1 h2 => Lib.hid (ds_yes 0 0 none none 0 0 0 [] (by omega) W h1 h2)
        have hz := HK.out _ (Below.refl _ _)
        obtain ⟨⟨j1, j2, j3⟩, j7, j8, j9⟩ := hz
        have q1 : decide ((0 : Int) ≤ x0) = true := decide_eq_true (by omega)
        have q2 : decide (x0 < (M : Int)) = false := decide_eq_false (by omega)
        clear hb hbA hx0 HAT HP
        go_wp2_with fail
        generalize w3.heap.size = p11 at *
        go_quiet (fail)
        revert nq
        intro n1
        have hb5 := belN (Below.refl (w3.alloc (.cells #[.int .i64 0, .int .i64 0, .slice none 0 0] 31)).heap.size (w3.alloc (.cells #[.int .i64 0, .int .i64 0, .slice none 0 0] 31))) n1
        have HS5 := Lib.hid (HS4.out.next hb5)
        have HK5 : Hid (∀ W, Below ((w3.alloc (.cells #[.int .i64 0, .int .i64 0, .slice none 0 0] 31)).drewN n1).heap.size ((w3.alloc (.cells #[.int .i64 0, .int .i64 0, .slice none 0 0] 31)).drewN n1) W → (W.cell? ⟨p11, 0, none⟩ = some (.int .i64 0) ∧ W.cell? ⟨p11, 1, none⟩ = some (.int .i64 0) ∧ W.cell? ⟨p11, 2, none⟩ = some (.slice none 0 0)) ∧ W.cell? ⟨d, 1, none⟩ = some (.slice am M cm) ∧ W.cell? ⟨v.heap.size, 0, none⟩ = some (.int .i64 x0) ∧ W.cell? ⟨v.heap.size, 1, none⟩ = some (.int .i64 x1)) := Lib.hid fun W hW => HK.out W (Below.next hb5 hW)
        generalize (w3.alloc (.cells #[.int .i64 0, .int .i64 0, .slice none 0 0] 31)).drewN n1 = w5 at *
        have k5 := HK5.out w5.drew (Below.refl _ _).drew
        clear hb5 HK HS4 HB4 j1 j2 j3 j7 j8 j9
        go_wp2_with fail
        refine wp_region_held_drew (S := fun w' => (w'.cell? ⟨p11, 0, none⟩ = some (.int .i64 0) ∧ w'.cell? ⟨p11, 1, none⟩ = some (.int .i64 0) ∧ w'.cell? ⟨p11, 2, none⟩ = some (.slice none 0 0)) ∧ w'.cell? ⟨d, 1, none⟩ = some (.slice am M cm) ∧ w'.cell? ⟨v.heap.size, 0, none⟩ = some (.int .i64 x0) ∧ w'.cell? ⟨v.heap.size, 1, none⟩ = some (.int .i64 x1)) (by kernel_rfl) ?_ (fun hH => ?_)
        · exact k5
        refine wpAnyH_take (i := 0) (oi := { dst := some 66, op := Go.Op.move (Go.Operand.tmp 12), type := 4, pos := "law.go:53", after := #[], guard := none }) (v := ?_) rfl (by kernel_rfl) (by kernel_rfl) (by kernel_rfl) (fun _ _ _ h => h) (Or.inl ⟨by rfl, ?_⟩) (by assumption) ?_
        rotate_left
        · intro w hSw
          try dsimp only at hSw
          obtain ⟨⟨q1, q2, q3⟩, q7, q8, q9⟩ := hSw
          go_simp
          all_goals with_reducible rfl
        try simp only [Act.put, List.setIfInBounds_toArray, List.set_cons_zero, List.set_cons_succ]
        refine wpAnyH_take (i := 1) (oi := { dst := some 67, op := Go.Op.move (Go.Operand.tmp 13), type := 4, pos := "law.go:53", after := #[], guard := none }) (v := ?_) rfl (by kernel_rfl) (by kernel_rfl) (by kernel_rfl) (fun _ _ _ h => h) (Or.inl ⟨by rfl, ?_⟩) (by assumption) ?_
        rotate_left
        · intro w hSw
          try dsimp only at hSw
          obtain ⟨⟨q1, q2, q3⟩, q7, q8, q9⟩ := hSw
          go_simp
          all_goals with_reducible rfl
        try simp only [Act.put, List.setIfInBounds_toArray, List.set_cons_zero, List.set_cons_succ]
        refine wpAnyH_take (i := 2) (oi := { dst := some 68, op := Go.Op.binOp Go.BinOp.neq 4 (Go.Operand.tmp 66) (Go.Operand.tmp 67) 4, type := 4, pos := "law.go:53", after := #[{ on := 0, ground := Go.Ground.data }, { on := 1, ground := Go.Ground.data }], guard := none }) (v := ?_) rfl (by kernel_rfl) (by kernel_rfl) (by kernel_rfl) (fun _ _ _ h => h) (Or.inl ⟨by rfl, ?_⟩) (by assumption) ?_
        rotate_left
        · intro w hSw
          try dsimp only at hSw
          obtain ⟨⟨q1, q2, q3⟩, q7, q8, q9⟩ := hSw
          go_simp
          all_goals with_reducible rfl
        try simp only [Act.put, List.setIfInBounds_toArray, List.set_cons_zero, List.set_cons_succ]
        refine wpAnyH_take (i := 3) (oi := { dst := some 69, op := Go.Op.move (Go.Operand.tmp 68), type := 4, pos := "law.go:53", after := #[{ on := 2, ground := Go.Ground.data }], guard := none }) (v := ?_) rfl (by kernel_rfl) (by kernel_rfl) (by kernel_rfl) (fun _ _ _ h => h) (Or.inl ⟨by rfl, ?_⟩) (by assumption) ?_
        rotate_left
        · intro w hSw
          try dsimp only at hSw
          obtain ⟨⟨q1, q2, q3⟩, q7, q8, q9⟩ := hSw
          go_simp
          all_goals with_reducible rfl
        try simp only [Act.put, List.setIfInBounds_toArray, List.set_cons_zero, List.set_cons_succ]
        refine wpAnyH_take (i := 4) (oi := { dst := some 70, op := Go.Op.move (Go.Operand.tmp 13), type := 4, pos := "law.go:53", after := #[{ on := 3, ground := Go.Ground.guard }], guard := some (3, false) }) (v := ?_) rfl (by kernel_rfl) (by kernel_rfl) (by kernel_rfl) (fun _ _ _ h => h) (Or.inl ⟨by rfl, ?_⟩) (by assumption) ?_
        rotate_left
        · intro w hSw
          try dsimp only at hSw
          obtain ⟨⟨q1, q2, q3⟩, q7, q8, q9⟩ := hSw
          go_simp
          all_goals with_reducible rfl
        try simp only [Act.put, List.setIfInBounds_toArray, List.set_cons_zero, List.set_cons_succ]
        refine wpAnyH_take (i := 5) (oi := { dst := some 71, op := Go.Op.move (Go.Operand.tmp 70), type := 4, pos := "law.go:53", after := #[{ on := 4, ground := Go.Ground.data }, { on := 3, ground := Go.Ground.chain }, { on := 3, ground := Go.Ground.guard }], guard := some (3, false) }) (v := ?_) rfl (by kernel_rfl) (by kernel_rfl) (by kernel_rfl) (fun _ _ _ h => h) (Or.inl ⟨by rfl, ?_⟩) (by assumption) ?_
        rotate_left
        · intro w hSw
          try dsimp only at hSw
          obtain ⟨⟨q1, q2, q3⟩, q7, q8, q9⟩ := hSw
          go_simp
          all_goals with_reducible rfl
        try simp only [Act.put, List.setIfInBounds_toArray, List.set_cons_zero, List.set_cons_succ]
        refine wpAnyH_take (i := 6) (oi := { dst := some 72, op := Go.Op.load 31 (Go.Operand.tmp 11), type := 31, pos := "law.go:53", after := #[{ on := 5, ground := Go.Ground.guard }], guard := some (5, true) }) (v := undef) rfl (by kernel_rfl) (by kernel_rfl) (by kernel_rfl) (fun _ _ _ h => h) (Or.inr ⟨by rfl, rfl⟩) (by assumption) ?_
        try simp only [Act.put, List.setIfInBounds_toArray, List.set_cons_zero, List.set_cons_succ]
        refine wpAnyH_take (i := 7) (oi := { dst := some 73, op := Go.Op.move (Go.Operand.tmp 8), type := 25, pos := "law.go:53", after := #[{ on := 5, ground := Go.Ground.guard }], guard := some (5, true) }) (v := undef) rfl (by kernel_rfl) (by kernel_rfl) (by kernel_rfl) (fun _ _ _ h => h) (Or.inr ⟨by rfl, rfl⟩) (by assumption) ?_
        try simp only [Act.put, List.setIfInBounds_toArray, List.set_cons_zero, List.set_cons_succ]
        refine wpAnyH_take (i := 8) (oi := { dst := some 74, op := Go.Op.nilCheck (Go.Operand.tmp 73), type := 0, pos := "law.go:53", after := #[{ on := 7, ground := Go.Ground.data }, { on := 5, ground := Go.Ground.guard }], guard := some (5, true) }) (v := undef) rfl (by kernel_rfl) (by kernel_rfl) (by kernel_rfl) (fun _ _ _ h => h) (Or.inr ⟨by rfl, rfl⟩) (by assumption) ?_
        try simp only [Act.put, List.setIfInBounds_toArray, List.set_cons_zero, List.set_cons_succ]
        refine wpAnyH_take (i := 9) (oi := { dst := some 75, op := Go.Op.fieldAddr 37 (Go.Operand.tmp 74) 1, type := 0, pos := "law.go:53", after := #[{ on := 8, ground := Go.Ground.data }, { on := 5, ground := Go.Ground.guard }], guard := some (5, true) }) (v := undef) rfl (by kernel_rfl) (by kernel_rfl) (by kernel_rfl) (fun _ _ _ h => h) (Or.inr ⟨by rfl, rfl⟩) (by assumption) ?_
        try simp only [Act.put, List.setIfInBounds_toArray, List.set_cons_zero, List.set_cons_succ]
        refine wpAnyH_take (i := 10) (oi := { dst := some 76, op := Go.Op.load 22 (Go.Operand.tmp 75), type := 22, pos := "law.go:53", after := #[{ on := 9, ground := Go.Ground.data }, { on := 5, ground := Go.Ground.guard }], guard := some (5, true) }) (v := undef) rfl (by kernel_rfl) (by kernel_rfl) (by kernel_rfl) (fun _ _ _ h => h) (Or.inr ⟨by rfl, rfl⟩) (by assumption) ?_
        try simp only [Act.put, List.setIfInBounds_toArray, List.set_cons_zero, List.set_cons_succ]
        refine wpAnyH_take (i := 11) (oi := { dst := some 77, op := Go.Op.indexAddr 41 (Go.Operand.tmp 5) (Go.Operand.const (Go.Value.int Go.IntKind.i64 0)), type := 0, pos := "law.go:53", after := #[{ on := 5, ground := Go.Ground.guard }], guard := some (5, true) }) (v := undef) rfl (by kernel_rfl) (by kernel_rfl) (by kernel_rfl) (fun _ _ _ h => h) (Or.inr ⟨by rfl, rfl⟩) (by assumption) ?_
        try simp only [Act.put, List.setIfInBounds_toArray, List.set_cons_zero, List.set_cons_succ]
        refine wpAnyH_take (i := 12) (oi := { dst := some 78, op := Go.Op.load 3 (Go.Operand.tmp 77), type := 3, pos := "law.go:53", after := #[{ on := 11, ground := Go.Ground.data }, { on := 5, ground := Go.Ground.guard }], guard := some (5, true) }) (v := undef) rfl (by kernel_rfl) (by kernel_rfl) (by kernel_rfl) (fun _ _ _ h => h) (Or.inr ⟨by rfl, rfl⟩) (by assumption) ?_
        try simp only [Act.put, List.setIfInBounds_toArray, List.set_cons_zero, List.set_cons_succ]
        refine wpAnyH_take (i := 13) (oi := { dst := some 79, op := Go.Op.indexAddr 22 (Go.Operand.tmp 76) (Go.Operand.tmp 78), type := 0, pos := "law.go:53", after := #[{ on := 10, ground := Go.Ground.data }, { on := 12, ground := Go.Ground.data }, { on := 5, ground := Go.Ground.guard }], guard := some (5, true) }) (v := undef) rfl (by kernel_rfl) (by kernel_rfl) (by kernel_rfl) (fun _ _ _ h => h) (Or.inr ⟨by rfl, rfl⟩) (by assumption) ?_
        try simp only [Act.put, List.setIfInBounds_toArray, List.set_cons_zero, List.set_cons_succ]
        refine wpAnyH_take (i := 14) (oi := { dst := some 80, op := Go.Op.load 31 (Go.Operand.tmp 79), type := 31, pos := "law.go:53", after := #[{ on := 13, ground := Go.Ground.data }, { on := 5, ground := Go.Ground.guard }], guard := some (5, true) }) (v := undef) rfl (by kernel_rfl) (by kernel_rfl) (by kernel_rfl) (fun _ _ _ h => h) (Or.inr ⟨by rfl, rfl⟩) (by assumption) ?_
        try simp only [Act.put, List.setIfInBounds_toArray, List.set_cons_zero, List.set_cons_succ]
        refine wpAnyH_take (i := 15) (oi := { dst := some 81, op := Go.Op.call { callee := Go.Callee.value (Go.Operand.func 19), args := #[Go.Operand.tmp 72, Go.Operand.tmp 80], argTypes := #[31, 31] }, type := 4, pos := "law.go:53", after := #[{ on := 6, ground := Go.Ground.data }, { on := 14, ground := Go.Ground.data }, { on := 5, ground := Go.Ground.chain }, { on := 5, ground := Go.Ground.guard }], guard := some (5, true) }) (v := undef) rfl (by kernel_rfl) (by kernel_rfl) (by kernel_rfl) (fun _ _ _ h => h) (Or.inr ⟨by rfl, rfl⟩) (by assumption) ?_
        try simp only [Act.put, List.setIfInBounds_toArray, List.set_cons_zero, List.set_cons_succ]
        refine wpAnyH_take (i := 16) (oi := { dst := some 82, op := Go.Op.unOp Go.UnOp.not 4 (Go.Operand.tmp 81), type := 4, pos := "law.go:53", after := #[{ on := 15, ground := Go.Ground.data }, { on := 5, ground := Go.Ground.guard }], guard := some (5, true) }) (v := undef) rfl (by kernel_rfl) (by kernel_rfl) (by kernel_rfl) (fun _ _ _ h => h) (Or.inr ⟨by rfl, rfl⟩) (by assumption) ?_
        try simp only [Act.put, List.setIfInBounds_toArray, List.set_cons_zero, List.set_cons_succ]
        refine wpAnyH_take (i := 17) (oi := { dst := some 83, op := Go.Op.pick (Go.Operand.tmp 71) (Go.Operand.tmp 82) (Go.Operand.const (Go.Value.bool false)), type := 4, pos := "law.go:53", after := #[{ on := 5, ground := Go.Ground.data }, { on := 16, ground := Go.Ground.data }, { on := 3, ground := Go.Ground.guard }], guard := some (3, false) }) (v := ?_) rfl (by kernel_rfl) (by kernel_rfl) (by kernel_rfl) (fun _ _ _ h => h) (Or.inl ⟨by rfl, ?_⟩) (by assumption) ?_
        rotate_left
        · intro w hSw
          try dsimp only at hSw
          obtain ⟨⟨q1, q2, q3⟩, q7, q8, q9⟩ := hSw
          go_simp
          all_goals with_reducible rfl
        try simp only [Act.put, List.setIfInBounds_toArray, List.set_cons_zero, List.set_cons_succ]
        refine wpAnyH_take (i := 18) (oi := { dst := some 84, op := Go.Op.pick (Go.Operand.tmp 69) (Go.Operand.const (Go.Value.bool true)) (Go.Operand.tmp 83), type := 4, pos := "law.go:53", after := #[{ on := 3, ground := Go.Ground.data }, { on := 17, ground := Go.Ground.data }], guard := none }) (v := ?_) rfl (by kernel_rfl) (by kernel_rfl) (by kernel_rfl) (fun _ _ _ h => h) (Or.inl ⟨by rfl, ?_⟩) (by assumption) ?_
        rotate_left
        · intro w hSw
          try dsimp only at hSw
          obtain ⟨⟨q1, q2, q3⟩, q7, q8, q9⟩ := hSw
          go_simp
          all_goals with_reducible rfl
        try simp only [Act.put, List.setIfInBounds_toArray, List.set_cons_zero, List.set_cons_succ]
        refine wpAnyH_take (i := 19) (oi := { dst := some 85, op := Go.Op.move (Go.Operand.tmp 84), type := 4, pos := "law.go:53", after := #[{ on := 18, ground := Go.Ground.data }, { on := 15, ground := Go.Ground.chain }], guard := none }) (v := ?_) rfl (by kernel_rfl) (by kernel_rfl) (by kernel_rfl) (fun _ _ _ h => h) (Or.inl ⟨by rfl, ?_⟩) (by assumption) ?_
        rotate_left
        · intro w hSw
          try dsimp only at hSw
          obtain ⟨⟨q1, q2, q3⟩, q7, q8, q9⟩ := hSw
          go_simp
          all_goals with_reducible rfl
        try simp only [Act.put, List.setIfInBounds_toArray, List.set_cons_zero, List.set_cons_succ]
        refine wpAnyH_take (i := 20) (oi := { dst := some 86, op := Go.Op.move (Go.Operand.tmp 13), type := 4, pos := "law.go:53", after := #[{ on := 19, ground := Go.Ground.guard }], guard := some (19, false) }) (v := ?_) rfl (by kernel_rfl) (by kernel_rfl) (by kernel_rfl) (fun _ _ _ h => h) (Or.inl ⟨by rfl, ?_⟩) (by assumption) ?_
        rotate_left
        · intro w hSw
          try dsimp only at hSw
          obtain ⟨⟨q1, q2, q3⟩, q7, q8, q9⟩ := hSw
          go_simp
          all_goals with_reducible rfl
        try simp only [Act.put, List.setIfInBounds_toArray, List.set_cons_zero, List.set_cons_succ]
        refine wpAnyH_take (i := 21) (oi := { dst := some 87, op := Go.Op.unOp Go.UnOp.not 4 (Go.Operand.tmp 86), type := 4, pos := "law.go:53", after := #[{ on := 20, ground := Go.Ground.data }, { on := 19, ground := Go.Ground.guard }], guard := some (19, false) }) (v := ?_) rfl (by kernel_rfl) (by kernel_rfl) (by kernel_rfl) (fun _ _ _ h => h) (Or.inl ⟨by rfl, ?_⟩) (by assumption) ?_
        rotate_left
        · intro w hSw
          try dsimp only at hSw
          obtain ⟨⟨q1, q2, q3⟩, q7, q8, q9⟩ := hSw
          go_simp
          all_goals with_reducible rfl
        try simp only [Act.put, List.setIfInBounds_toArray, List.set_cons_zero, List.set_cons_succ]
        refine wpAnyH_take (i := 22) (oi := { dst := some 88, op := Go.Op.move (Go.Operand.tmp 87), type := 4, pos := "law.go:53", after := #[{ on := 21, ground := Go.Ground.data }, { on := 19, ground := Go.Ground.chain }, { on := 19, ground := Go.Ground.guard }], guard := some (19, false) }) (v := ?_) rfl (by kernel_rfl) (by kernel_rfl) (by kernel_rfl) (fun _ _ _ h => h) (Or.inl ⟨by rfl, ?_⟩) (by assumption) ?_
        rotate_left
        · intro w hSw
          try dsimp only at hSw
          obtain ⟨⟨q1, q2, q3⟩, q7, q8, q9⟩ := hSw
          go_simp
          all_goals with_reducible rfl
        try simp only [Act.put, List.setIfInBounds_toArray, List.set_cons_zero, List.set_cons_succ]
        refine wpAnyH_take (i := 23) (oi := { dst := some 89, op := Go.Op.load 31 (Go.Operand.tmp 11), type := 31, pos := "law.go:53", after := #[{ on := 22, ground := Go.Ground.guard }], guard := some (22, true) }) (v := ?_) rfl (by kernel_rfl) (by kernel_rfl) (by kernel_rfl) (fun _ _ _ h => h) (Or.inl ⟨by rfl, ?_⟩) (by assumption) ?_
        rotate_left
        · intro w hSw
          try dsimp only at hSw
          obtain ⟨⟨q1, q2, q3⟩, q7, q8, q9⟩ := hSw
          go_simp
          all_goals with_reducible rfl
        try simp only [Act.put, List.setIfInBounds_toArray, List.set_cons_zero, List.set_cons_succ]
        refine wpAnyH_take (i := 24) (oi := { dst := some 90, op := Go.Op.build 31 #[], type := 31, pos := "law.go:53", after := #[{ on := 22, ground := Go.Ground.guard }], guard := some (22, true) }) (v := ?_) rfl (by kernel_rfl) (by kernel_rfl) (by kernel_rfl) (fun _ _ _ h => h) (Or.inl ⟨by rfl, ?_⟩) (by assumption) ?_
        rotate_left
        · intro w hSw
          try dsimp only at hSw
          obtain ⟨⟨q1, q2, q3⟩, q7, q8, q9⟩ := hSw
          go_simp
          all_goals with_reducible rfl
        try simp only [Act.put, List.setIfInBounds_toArray, List.set_cons_zero, List.set_cons_succ]
        refine wpAnyH_ready (rs := [25]) (by kernel_rfl) (by simp) ?_
        refine AllReadyH.cons (o := { dst := some 91, op := Go.Op.call { callee := Go.Callee.value (Go.Operand.func 19), args := #[Go.Operand.tmp 89, Go.Operand.tmp 90], argTypes := #[31, 31] }, type := 4, pos := "law.go:53", after := #[{ on := 23, ground := Go.Ground.data }, { on := 24, ground := Go.Ground.data }, { on := 22, ground := Go.Ground.chain }, { on := 22, ground := Go.Ground.guard }], guard := some (22, true) }) rfl (fun K hK => ?_) ?_
        · go_simp
          refine (HDS w5.drew (isUs_nil _) (isUs_nil _)).out.mono ?_
          rintro e w6 ⟨rfl, hb'⟩
          have hb : Below w5.heap.size w5 w6 := ⟨hb'.os, hb'.tape, hb'.output, hb'.size, hb'.block⟩
          have HS6 := Lib.hid (HS5.out.next hb)
          have k6 := HK5.out _ hb
          clear hb hb'
          go_wp2_with fail
          refine hK.out _ _ ?_ (fun hH => ?_)
          · exact k6
          clear hK K
          try simp only [Act.put, List.setIfInBounds_toArray, List.set_cons_zero, List.set_cons_succ]
          refine wpAnyH_take (i := 26) (oi := { dst := some 92, op := Go.Op.unOp Go.UnOp.not 4 (Go.Operand.tmp 91), type := 4, pos := "law.go:53", after := #[{ on := 25, ground := Go.Ground.data }, { on := 22, ground := Go.Ground.guard }], guard := some (22, true) }) (v := ?_) rfl (by kernel_rfl) (by kernel_rfl) (by kernel_rfl) (fun _ _ _ h => h) (Or.inl ⟨by rfl, ?_⟩) (by assumption) ?_
          rotate_left
          · intro w hSw
            try dsimp only at hSw
            obtain ⟨⟨q1, q2, q3⟩, q7, q8, q9⟩ := hSw
            go_simp
            all_goals with_reducible rfl
          try simp only [Act.put, List.setIfInBounds_toArray, List.set_cons_zero, List.set_cons_succ]
          refine wpAnyH_take (i := 27) (oi := { dst := some 93, op := Go.Op.pick (Go.Operand.tmp 88) (Go.Operand.tmp 92) (Go.Operand.const (Go.Value.bool false)), type := 4, pos := "law.go:53", after := #[{ on := 22, ground := Go.Ground.data }, { on := 26, ground := Go.Ground.data }, { on := 19, ground := Go.Ground.guard }], guard := some (19, false) }) (v := ?_) rfl (by kernel_rfl) (by kernel_rfl) (by kernel_rfl) (fun _ _ _ h => h) (Or.inl ⟨by rfl, ?_⟩) (by assumption) ?_
          rotate_left
          · intro w hSw
            try dsimp only at hSw
            obtain ⟨⟨q1, q2, q3⟩, q7, q8, q9⟩ := hSw
            go_simp
            all_goals with_reducible rfl
          try simp only [Act.put, List.setIfInBounds_toArray, List.set_cons_zero, List.set_cons_succ]
          refine wpAnyH_take (i := 28) (oi := { dst := some 94, op := Go.Op.pick (Go.Operand.tmp 85) (Go.Operand.const (Go.Value.bool true)) (Go.Operand.tmp 93), type := 4, pos := "law.go:53", after := #[{ on := 19, ground := Go.Ground.data }, { on := 27, ground := Go.Ground.data }], guard := none }) (v := ?_) rfl (by kernel_rfl) (by kernel_rfl) (by kernel_rfl) (fun _ _ _ h => h) (Or.inl ⟨by rfl, ?_⟩) (by assumption) ?_
          rotate_left
          · intro w hSw
            try dsimp only at hSw
            obtain ⟨⟨q1, q2, q3⟩, q7, q8, q9⟩ := hSw
            go_simp
            all_goals with_reducible rfl
          try simp only [Act.put, List.setIfInBounds_toArray, List.set_cons_zero, List.set_cons_succ]
          refine wpAnyH_take (i := 29) (oi := { dst := some 95, op := Go.Op.move (Go.Operand.tmp 94), type := 4, pos := "law.go:53", after := #[{ on := 28, ground := Go.Ground.data }, { on := 25, ground := Go.Ground.chain }], guard := none }) (v := ?_) rfl (by kernel_rfl) (by kernel_rfl) (by kernel_rfl) (fun _ _ _ h => h) (Or.inl ⟨by rfl, ?_⟩) (by assumption) ?_
          rotate_left
          · intro w hSw
            try dsimp only at hSw
            obtain ⟨⟨q1, q2, q3⟩, q7, q8, q9⟩ := hSw
            go_simp
            all_goals with_reducible rfl
          try simp only [Act.put, List.setIfInBounds_toArray, List.set_cons_zero, List.set_cons_succ]
          refine wpAnyH_take (i := 30) (oi := { dst := some 96, op := Go.Op.move (Go.Operand.tmp 7), type := 23, pos := "law.go:53", after := #[{ on := 29, ground := Go.Ground.guard }], guard := some (29, false) }) (v := ?_) rfl (by kernel_rfl) (by kernel_rfl) (by kernel_rfl) (fun _ _ _ h => h) (Or.inl ⟨by rfl, ?_⟩) (by assumption) ?_
          rotate_left
          · intro w hSw
            try dsimp only at hSw
            obtain ⟨⟨q1, q2, q3⟩, q7, q8, q9⟩ := hSw
            go_simp
            all_goals with_reducible rfl
          try simp only [Act.put, List.setIfInBounds_toArray, List.set_cons_zero, List.set_cons_succ]
          refine wpAnyH_take (i := 31) (oi := { dst := some 97, op := Go.Op.indexAddr 41 (Go.Operand.tmp 5) (Go.Operand.const (Go.Value.int Go.IntKind.i64 1)), type := 0, pos := "law.go:53", after := #[{ on := 29, ground := Go.Ground.guard }], guard := some (29, false) }) (v := ?_) rfl (by kernel_rfl) (by kernel_rfl) (by kernel_rfl) (fun _ _ _ h => h) (Or.inl ⟨by rfl, ?_⟩) (by assumption) ?_
          rotate_left
          · intro w hSw
            try dsimp only at hSw
            obtain ⟨⟨q1, q2, q3⟩, q7, q8, q9⟩ := hSw
            go_simp
            all_goals with_reducible rfl
          try simp only [Act.put, List.setIfInBounds_toArray, List.set_cons_zero, List.set_cons_succ]
          refine wpAnyH_take (i := 32) (oi := { dst := some 98, op := Go.Op.load 3 (Go.Operand.tmp 97), type := 3, pos := "law.go:53", after := #[{ on := 31, ground := Go.Ground.data }, { on := 29, ground := Go.Ground.guard }], guard := some (29, false) }) (v := ?_) rfl (by kernel_rfl) (by kernel_rfl) (by kernel_rfl) (fun _ _ _ h => h) (Or.inl ⟨by rfl, ?_⟩) (by assumption) ?_
          rotate_left
          · intro w hSw
            try dsimp only at hSw
            obtain ⟨⟨q1, q2, q3⟩, q7, q8, q9⟩ := hSw
            go_simp
            all_goals with_reducible rfl
          try simp only [Act.put, List.setIfInBounds_toArray, List.set_cons_zero, List.set_cons_succ]
          refine wpAnyH_take (i := 34) (oi := { dst := some 100, op := Go.Op.move (Go.Operand.tmp 8), type := 25, pos := "law.go:53", after := #[{ on := 29, ground := Go.Ground.guard }], guard := some (29, false) }) (v := ?_) rfl (by kernel_rfl) (by kernel_rfl) (by kernel_rfl) (fun _ _ _ h => h) (Or.inl ⟨by rfl, ?_⟩) (by assumption) ?_
          rotate_left
          · intro w hSw
            try dsimp only at hSw
            obtain ⟨⟨q1, q2, q3⟩, q7, q8, q9⟩ := hSw
            go_simp
            all_goals with_reducible rfl
          try simp only [Act.put, List.setIfInBounds_toArray, List.set_cons_zero, List.set_cons_succ]
          refine wpAnyH_take (i := 35) (oi := { dst := some 101, op := Go.Op.indexAddr 41 (Go.Operand.tmp 5) (Go.Operand.const (Go.Value.int Go.IntKind.i64 1)), type := 0, pos := "law.go:53", after := #[{ on := 29, ground := Go.Ground.guard }], guard := some (29, false) }) (v := ?_) rfl (by kernel_rfl) (by kernel_rfl) (by kernel_rfl) (fun _ _ _ h => h) (Or.inl ⟨by rfl, ?_⟩) (by assumption) ?_
          rotate_left
          · intro w hSw
            try dsimp only at hSw
            obtain ⟨⟨q1, q2, q3⟩, q7, q8, q9⟩ := hSw
            go_simp
            all_goals with_reducible rfl
          try simp only [Act.put, List.setIfInBounds_toArray, List.set_cons_zero, List.set_cons_succ]
          refine wpAnyH_take (i := 36) (oi := { dst := some 102, op := Go.Op.load 3 (Go.Operand.tmp 101), type := 3, pos := "law.go:53", after := #[{ on := 35, ground := Go.Ground.data }, { on := 29, ground := Go.Ground.guard }], guard := some (29, false) }) (v := ?_) rfl (by kernel_rfl) (by kernel_rfl) (by kernel_rfl) (fun _ _ _ h => h) (Or.inl ⟨by rfl, ?_⟩) (by assumption) ?_
          rotate_left
          · intro w hSw
            try dsimp only at hSw
            obtain ⟨⟨q1, q2, q3⟩, q7, q8, q9⟩ := hSw
            go_simp
            all_goals with_reducible rfl
          try simp only [Act.put, List.setIfInBounds_toArray, List.set_cons_zero, List.set_cons_succ]
          refine wpAnyH_ready (rs := [33]) (by kernel_rfl) (by simp) ?_
          refine AllReadyH.cons (o := { dst := some 99, op := Go.Op.call { callee := Go.Callee.value (Go.Operand.func 20), args := #[Go.Operand.tmp 96, Go.Operand.tmp 98], argTypes := #[23, 3] }, type := 3, pos := "law.go:53", after := #[{ on := 30, ground := Go.Ground.data }, { on := 32, ground := Go.Ground.data }, { on := 29, ground := Go.Ground.chain }, { on := 29, ground := Go.Ground.guard }], guard := some (29, false) }) rfl (fun K hK => ?_) ?_
          · go_simp
            refine (HTA.out w6 HS6.out.cp.j).mono ?_
            rintro e w10 ⟨rfl, rfl⟩
            go_wp2_with fail
            refine hK.out _ _ ?_ (fun hH => ?_)
            · exact k6
            clear hK K
            try simp only [Act.put, List.setIfInBounds_toArray, List.set_cons_zero, List.set_cons_succ]
            refine wpAnyH_ready (rs := [37]) (by kernel_rfl) (by simp) ?_
            refine AllReadyH.cons (o := { dst := some 103, op := Go.Op.call { callee := Go.Callee.value (Go.Operand.func 21), args := #[Go.Operand.tmp 100, Go.Operand.tmp 102], argTypes := #[25, 3] }, type := 3, pos := "law.go:53", after := #[{ on := 34, ground := Go.Ground.data }, { on := 36, ground := Go.Ground.data }, { on := 33, ground := Go.Ground.chain }, { on := 29, ground := Go.Ground.guard }], guard := some (29, false) }) rfl (fun K hK => ?_) ?_
            · go_simp
              refine (HTB.out w10 HS6.out.cp.m).mono ?_
              rintro e w11 ⟨rfl, rfl⟩
              go_wp2_with fail
              refine hK.out _ _ ?_ (fun hH => ?_)
              · exact k6
              clear hK K
              try simp only [Act.put, List.setIfInBounds_toArray, List.set_cons_zero, List.set_cons_succ]
              refine wpAnyH_take (i := 38) (oi := { dst := some 104, op := Go.Op.binOp Go.BinOp.neq 3 (Go.Operand.tmp 99) (Go.Operand.tmp 103) 3, type := 4, pos := "law.go:53", after := #[{ on := 33, ground := Go.Ground.data }, { on := 37, ground := Go.Ground.data }, { on := 29, ground := Go.Ground.guard }], guard := some (29, false) }) (v := ?_) rfl (by kernel_rfl) (by kernel_rfl) (by kernel_rfl) (fun _ _ _ h => h) (Or.inl ⟨by rfl, ?_⟩) (by assumption) ?_
              rotate_left
              · intro w hSw
                try dsimp only at hSw
                obtain ⟨⟨q1, q2, q3⟩, q7, q8, q9⟩ := hSw
                go_simp
                all_goals with_reducible rfl
              try simp only [Act.put, List.setIfInBounds_toArray, List.set_cons_zero, List.set_cons_succ]
              refine wpAnyH_take (i := 39) (oi := { dst := some 105, op := Go.Op.pick (Go.Operand.tmp 95) (Go.Operand.const (Go.Value.bool true)) (Go.Operand.tmp 104), type := 4, pos := "law.go:53", after := #[{ on := 29, ground := Go.Ground.data }, { on := 38, ground := Go.Ground.data }], guard := none }) (v := ?_) rfl (by kernel_rfl) (by kernel_rfl) (by kernel_rfl) (fun _ _ _ h => h) (Or.inl ⟨by rfl, ?_⟩) (by assumption) ?_
              rotate_left
              · intro w hSw
                try dsimp only at hSw
                obtain ⟨⟨q1, q2, q3⟩, q7, q8, q9⟩ := hSw
                go_simp
                all_goals with_reducible rfl
              try simp only [Act.put, List.setIfInBounds_toArray, List.set_cons_zero, List.set_cons_succ]
              refine wpAnyH_done (by kernel_rfl) ?_ _
              have HS := HS6
              clear k5 k6 HK5 HS5 HS6
              have d2 := HS.out.rb.c2
              go_wp2_with fail
              clear d2
              go_loopw [109] (fun v109 wz => ∃ j : Nat, j ≤ 0 ∧ v109 = .int .i64 j ∧ St w wz w.heap.size d F G c L p11 0 0 none 0 0) (fun v109 _ => 0 - (intOf v109).toNat)
              case atStart => exact ⟨0, Nat.zero_le _, rfl, HS.out⟩
              case round =>
                obtain ⟨j, hj, rfl, hs⟩ := hrel
                clear HS
                have d2 := hs.rb.c2
                by_cases hjl : j < 0
                · exact absurd hjl (by omega)
                · obtain rfl : j = 0 := by omega
                  have HP := Lib.hid hs.cp
                  clear hs
                  have HCA := fun W h => Lib.hid (call_any (L := L) (B := w.heap.size) (b := w.heap.size) (F := F) (c := c) (by rw [HM.out]; omega) W h)
                  rw [HM.out] at HCA
                  go_wp2_with fail
                  refine (HCA _ HP.out.j).out.mono ?_
                  rintro e w9 ⟨gx, xs, rfl, hz, _, hown, hof, hb⟩
                  have hxl := map_len hof
                  rw [HM.out] at hxl
                  have hq : Sq w w9 w.heap.size d F G c L gx xs := ⟨HP.out.next hb, hz, fun r hr => own_fg HP.out (hown r hr)⟩
                  have HQ := Lib.hid hq
                  have HXL : Hid (∀ r ∈ xs, r.len ≤ 1000) := Lib.hid fun r hr => by
                    obtain ⟨_, _, _, _, e1, _⟩ := hown r hr
                    have := (HSM0.out (kR r) (by rw [← hof]; exact List.mem_map.2 ⟨_, hr, rfl⟩)).1
                    rw [e1]
                    exact this
                  clear hz hown hof hb hq HP HCA d2
                  go_wp2_with fail
                  go_loopw [121] (fun v121 wz => ∃ n : Nat, n ≤ M ∧ v121 = .int .i64 n ∧ Sq w wz w.heap.size d F G c L gx xs) (fun v121 _ => M - (intOf v121).toNat)
                  case atStart => exact ⟨0, Nat.zero_le _, rfl, HQ.out⟩
                  case round =>
                    obtain ⟨n, hn, rfl, hq⟩ := hrel
                    clear HQ
                    by_cases hnl : n < M
                    · obtain ⟨d0, d1, d2⟩ := hq.z.row n (by omega)
                      have hmem : xs.getD n rn0 ∈ xs := rn_mem (by omega)
                      have hxl2 := HXL.out _ hmem
                      generalize hr : xs.getD n rn0 = x at *
                      obtain ⟨xo, xn, xa, xl, xc, xu⟩ := x
                      simp only at d0 d1 d2 hxl2
                      have hbA := Joins.below_alloc1 wr (.cells #[.int .i64 xo, .int .i64 xn, .slice xa xl xc] 31)
                      have HQ := Lib.hid (hq.next hbA)
                      have HRX := Lib.hid (Rb.new wr xo xn xa xl xc)
                      have HMEM := Lib.hid hmem
                      have h2 := HRX.out.c2
                      clear hq hbA hmem hr
                      go_wp2_with fail
                      generalize wr.heap.size = p13 at *
                      clear h2 d0 d1 d2
                      go_loopw [128] (fun v128 wy => ∃ m : Nat, m ≤ xl ∧ v128 = .int .i64 m ∧ Sq w wy w.heap.size d F G c L gx xs ∧ Rb wy p13 xo xn xa xl xc) (fun v128 _ => xl - (intOf v128).toNat)
                      case atStart => exact ⟨0, Nat.zero_le _, rfl, HQ.out, HRX.out⟩
                      case round =>
                        obtain ⟨m, hm, rfl, hq, hrx⟩ := hrel
                        clear HQ HRX
                        have d2 := hrx.c2
                        by_cases hml : m < xl
                        · obtain ⟨g, v0, e, d0, f0, x1, x2, x3, x4⟩ := (hq.each _ HMEM.out).at' hml (show 0 < 4 by omega)
                          simp only at e
                          subst e
                          rw [Nat.add_zero] at d0 f0
                          have HQ := Lib.hid (hq.set x1 x2 x3 x4 (m * 4) (.string ⟨#[101, 108, 115, 101]⟩))
                          have HRX := Lib.hid (hrx.setnew (two_types hrx x4.choose_spec (by decide)) (m * 4) (.string ⟨#[101, 108, 115, 101]⟩))
                          clear hq hrx x1 x2 x3 x4
                          go_wp2
                          go_roundw
                          case rel => exact ⟨m + 1, by omega, by go_num, HQ.out, HRX.out⟩
                          case measure => simp [intOf]; omega
                        · obtain rfl : m = xl := by omega
                          have HQ := Lib.hid hq
                          clear hq hrx d2
                          go_wp2
                          go_roundw
                          case rel => exact ⟨n + 1, by omega, by go_num, HQ.out⟩
                          case measure => simp [intOf]; omega
                    · obtain rfl : M = n := by omega
                      have hp := hq.cp
                      have hsml := hp.j.sm
                      obtain ⟨am, cm, rm, hc1, hrm, hem, hcW⟩ := hp.m.open'
                      rw [HM.out] at hc1 hrm hcW
                      have hCA := call_any (L := L) (B := w.heap.size) (b := w.heap.size) (F := F) (c := c) (by rw [HM.out]; omega) wr.drew hp.drew.j
                      rw [HM.out] at hCA
                      have HCA2 := Lib.hid hCA
                      have HRM := Lib.hid hrm
                      have HEM := Lib.hid hem
                      have HCW2 := Lib.hid hcW
                      have HSML := Lib.hid hsml
                      have HP := Lib.hid hp
                      have z9 := HCW2.out wr.drew (Below.refl _ _).drew
                      clear hp hq hsml hCA hrm hem hcW
                      go_wp2_with fail
                      refine wp_region_held_drew (S := fun w' => w'.cell? ⟨d, 1, none⟩ = some (.slice am M cm)) (by kernel_rfl) ?_ (fun hH => ?_)
                      · exact z9
                      refine wpAnyH_take (i := 0) (oi := { dst := some 138, op := Go.Op.move (Go.Operand.tmp 7), type := 23, pos := "law.go:64", after := #[], guard := none }) (v := ?_) rfl (by kernel_rfl) (by kernel_rfl) (by kernel_rfl) (fun _ _ _ h => h) (Or.inl ⟨by rfl, ?_⟩) (by assumption) ?_
                      rotate_left
                      · intro w hSw
                        try dsimp only at hSw
                        go_simp
                        all_goals with_reducible rfl
                      try simp only [Act.put, List.setIfInBounds_toArray, List.set_cons_zero, List.set_cons_succ]
                      refine wpAnyH_take (i := 2) (oi := { dst := some 140, op := Go.Op.move (Go.Operand.tmp 8), type := 25, pos := "law.go:64", after := #[], guard := none }) (v := ?_) rfl (by kernel_rfl) (by kernel_rfl) (by kernel_rfl) (fun _ _ _ h => h) (Or.inl ⟨by rfl, ?_⟩) (by assumption) ?_
                      rotate_left
                      · intro w hSw
                        try dsimp only at hSw
                        go_simp
                        all_goals with_reducible rfl
                      try simp only [Act.put, List.setIfInBounds_toArray, List.set_cons_zero, List.set_cons_succ]
                      refine wpAnyH_take (i := 3) (oi := { dst := some 141, op := Go.Op.nilCheck (Go.Operand.tmp 140), type := 0, pos := "law.go:64", after := #[{ on := 2, ground := Go.Ground.data }], guard := none }) (v := ?_) rfl (by kernel_rfl) (by kernel_rfl) (by kernel_rfl) (fun _ _ _ h => h) (Or.inl ⟨by rfl, ?_⟩) (by assumption) ?_
                      rotate_left
                      · intro w hSw
                        try dsimp only at hSw
                        go_simp
                        all_goals with_reducible rfl
                      try simp only [Act.put, List.setIfInBounds_toArray, List.set_cons_zero, List.set_cons_succ]
                      refine wpAnyH_take (i := 4) (oi := { dst := some 142, op := Go.Op.fieldAddr 37 (Go.Operand.tmp 141) 1, type := 0, pos := "law.go:64", after := #[{ on := 3, ground := Go.Ground.data }], guard := none }) (v := ?_) rfl (by kernel_rfl) (by kernel_rfl) (by kernel_rfl) (fun _ _ _ h => h) (Or.inl ⟨by rfl, ?_⟩) (by assumption) ?_
                      rotate_left
                      · intro w hSw
                        try dsimp only at hSw
                        go_simp
                        all_goals with_reducible rfl
                      try simp only [Act.put, List.setIfInBounds_toArray, List.set_cons_zero, List.set_cons_succ]
                      refine wpAnyH_take (i := 5) (oi := { dst := some 143, op := Go.Op.load 22 (Go.Operand.tmp 142), type := 22, pos := "law.go:64", after := #[{ on := 4, ground := Go.Ground.data }], guard := none }) (v := ?_) rfl (by kernel_rfl) (by kernel_rfl) (by kernel_rfl) (fun _ _ _ h => h) (Or.inl ⟨by rfl, ?_⟩) (by assumption) ?_
                      rotate_left
                      · intro w hSw
                        try dsimp only at hSw
                        go_simp
                        all_goals with_reducible rfl
                      try simp only [Act.put, List.setIfInBounds_toArray, List.set_cons_zero, List.set_cons_succ]
                      refine wpAnyH_ready (rs := [1]) (by kernel_rfl) (by simp) ?_
                      refine AllReadyH.cons (o := { dst := some 139, op := Go.Op.call { callee := Go.Callee.value (Go.Operand.func 17), args := #[Go.Operand.tmp 138], argTypes := #[23] }, type := 22, pos := "law.go:64", after := #[{ on := 0, ground := Go.Ground.data }], guard := none }) rfl (fun K hK => ?_) ?_
                      · go_simp
                        refine HCA2.out.mono ?_
                        rintro e w5 ⟨g, ys, rfl, hrz, _, how, hxs, hb'⟩
                        have hb : Below wr.heap.size wr w5 := ⟨hb'.os, hb'.tape, hb'.output, hb'.size, hb'.block⟩
                        have hxl := map_len hxs
                        rw [HM.out] at hxl
                        have hix := rz_is hrz how
                        rw [hxl] at hix
                        have HP5 := Lib.hid (HP.out.next hb)
                        have HSA := Lib.hid (sameall_yes (some ⟨g, 0, none⟩) am M M cm ys rm (by omega) (alk_of (hxs.trans HEM.out.symm) M) (fun i hi => us_le HSML.out hxs i (by omega)) w5 hix (isRs_below HRM.out hb))
                        have z5 := HCW2.out w5 hb
                        have HB5 := Lib.hid hb
                        clear hrz how hxs hb' hb hxl hix HP
                        go_wp2_with fail
                        refine hK.out _ _ ?_ (fun hH => ?_)
                        · exact z5
                        clear hK K
                        try simp only [Act.put, List.setIfInBounds_toArray, List.set_cons_zero, List.set_cons_succ]
                        refine wpAnyH_ready (rs := [6]) (by kernel_rfl) (by simp) ?_
                        refine AllReadyH.cons (o := { dst := some 144, op := Go.Op.call { callee := Go.Callee.value (Go.Operand.func 16), args := #[Go.Operand.tmp 139, Go.Operand.tmp 143], argTypes := #[22, 22] }, type := 4, pos := "law.go:64", after := #[{ on := 1, ground := Go.Ground.data }, { on := 5, ground := Go.Ground.data }, { on := 1, ground := Go.Ground.chain }], guard := none }) rfl (fun K hK => ?_) ?_
                        · go_simp
                          refine HSA.out.mono ?_
                          rintro e w6 ⟨rfl, hb⟩
                          have HP6 := Lib.hid (HP5.out.next hb)
                          have z6 := HCW2.out w6 (Below.next HB5.out hb)
                          clear hb
                          go_wp2_with fail
                          refine hK.out _ _ ?_ (fun hH => ?_)
                          · exact z6
                          clear hK K
                          try simp only [Act.put, List.setIfInBounds_toArray, List.set_cons_zero, List.set_cons_succ]
                          refine wpAnyH_take (i := 7) (oi := { dst := some 6, op := Go.Op.assign (Go.Operand.tmp 144), type := 4, pos := "law.go:64", after := #[{ on := 6, ground := Go.Ground.data }, { on := 6, ground := Go.Ground.chain }, { on := 0, ground := Go.Ground.phase }, { on := 1, ground := Go.Ground.phase }, { on := 2, ground := Go.Ground.phase }, { on := 3, ground := Go.Ground.phase }, { on := 4, ground := Go.Ground.phase }, { on := 5, ground := Go.Ground.phase }, { on := 6, ground := Go.Ground.phase }], guard := none }) (v := ?_) rfl (by kernel_rfl) (by kernel_rfl) (by kernel_rfl) (fun _ _ _ h => h) (Or.inl ⟨by rfl, ?_⟩) (by assumption) ?_
                          rotate_left
                          · intro w hSw
                            try dsimp only at hSw
                            go_simp
                            all_goals with_reducible rfl
                          try simp only [Act.put, List.setIfInBounds_toArray, List.set_cons_zero, List.set_cons_succ]
                          refine wpAnyH_done (by kernel_rfl) ?_ _
                          clear z6 z5 z9
                          go_wp2
                          go_ret
                          exact ⟨rfl, Below.next HBX.out HP6.out.bel⟩
                        exact AllReadyH.nil
                      exact AllReadyH.nil
            exact AllReadyH.nil
          exact AllReadyH.nil
        exact AllReadyH.nil
      obtain ⟨i, rfl⟩ : ∃ i : Nat, x0 = (i : Int) := ⟨x0.toNat, by omega⟩
      have hiM : i < M := by omega
      have hAT := cat_in (L := L) i (by rw [hM]; exact hiM) wr hp.j
      have HAT := Lib.hid hAT
      have HP := Lib.hid hp
      have hx0 := (HCX.out wr hp.bel).1
      clear hp hAT
      go_wp2_with fail
      refine HAT.out.mono ?_
      rintro e w3 ⟨r, rfl, how, hkr, hb⟩
      obtain ⟨gm, offm, rfl, m0, m1, m2, hmu⟩ := rcells_of HRM.out hb hiM
      have hkm : kR (rm.getD i rn0) = L.getD i kr0 := by rw [← HEM.out, map_getD]
      have hsmr := HSM0.out (kR (rm.getD i rn0)) (by rw [← HEM.out]; exact List.mem_map.2 ⟨_, rn_mem (by have := HRM.out.size; omega), rfl⟩)
      rw [← hkr] at hkm
      have hru := how.ru.1
      have hwo := own_fg HP.out how
      generalize rm.getD i rn0 = m at *
      obtain ⟨ro, rn, ra, rl, rc, rus⟩ := r
      obtain ⟨mo, mn, ma, ml, mc, mus⟩ := m
      unfold kR at hkm hsmr
      simp only [Prod.mk.injEq] at hkm
      obtain ⟨y1, y2, y3⟩ := hkm
      simp only at hru hwo m0 m1 m2 hsmr
      have hmu1 := hmu.1
      simp only at hmu1
      subst y1 y2 y3
      have hll : ml = rl := hmu1.size.symm.trans hru.size
      subst hll
      have hul : ml ≤ 1000 := by have := hsmr.1; have := hru.size; omega
      simp only [rv]
      have hbA := Joins.below_alloc1 w3 (.cells #[.int .i64 mo, .int .i64 mn, .slice ra ml rc] 31)
      have hb4 := Below.next hb hbA
      obtain ⟨gm', offm', e', hfm⟩ := HRM.out.lies (by omega)
      cases e'
      have hgl := hfm.lt (by have := HRM.out.size; omega)
      have hgl3 : gm < w3.heap.size := Nat.lt_of_lt_of_le hgl hb.size
      have hgl4 : gm < (w3.alloc (.cells #[.int .i64 mo, .int .i64 mn, .slice ra ml rc] 31)).heap.size := Nat.lt_of_lt_of_le hgl3 hbA.size
      have HI1 := Lib.hid (isUs_below hru hbA)
      have HI2 := Lib.hid (isUs_below hmu1 hb4)
      have HS4 : Hid (St w (w3.alloc (.cells #[.int .i64 mo, .int .i64 mn, .slice ra ml rc] 31)) w.heap.size d F G c L w3.heap.size mo mn ra ml rc) := Lib.hid ⟨(HP.out.next hb).next hbA, hwo.next hbA, Rb.new w3 mo mn ra ml rc⟩
      have HB4 := Lib.hid hb4
      have HC4 : Hid (Below w.heap.size w (w3.alloc (.cells #[.int .i64 mo, .int .i64 mn, .slice ra ml rc] 31))) := Lib.hid HS4.out.cp.bel
      have HK : Hid (∀ W, Below (w3.alloc (.cells #[.int .i64 mo, .int .i64 mn, .slice ra ml rc] 31)).heap.size (w3.alloc (.cells #[.int .i64 mo, .int .i64 mn, .slice ra ml rc] 31)) W → (W.cell? ⟨w3.heap.size, 0, none⟩ = some (.int .i64 mo) ∧ W.cell? ⟨w3.heap.size, 1, none⟩ = some (.int .i64 mn) ∧ W.cell? ⟨w3.heap.size, 2, none⟩ = some (.slice ra ml rc)) ∧ (W.cell? ⟨gm, offm + i * 3, none⟩ = some (.int .i64 mo) ∧ W.cell? ⟨gm, offm + i * 3 + 1, none⟩ = some (.int .i64 mn) ∧ W.cell? ⟨gm, offm + i * 3 + 2, none⟩ = some (.slice ma ml mc)) ∧ W.cell? ⟨d, 1, none⟩ = some (.slice (some ⟨gm, offm, none⟩) M cm) ∧ W.cell? ⟨v.heap.size, 0, none⟩ = some (.int .i64 ((i : Nat) : Int)) ∧ W.cell? ⟨v.heap.size, 1, none⟩ = some (.int .i64 x1)) := Lib.hid fun W hW => ⟨⟨(HS4.out.rb.next hW).c0, (HS4.out.rb.next hW).c1, (HS4.out.rb.next hW).c2⟩, ⟨(hW.cell hgl4).trans ((hbA.cell hgl3).trans m0), (hW.cell hgl4).trans ((hbA.cell hgl3).trans m1), (hW.cell hgl4).trans ((hbA.cell hgl3).trans m2)⟩, HCW.out W (Below.next HB4.out hW), HCX.out W (Below.next HC4.out hW)⟩
      have HDS := fun W h1 h2 => Lib.hid (ds_yes mo mn ra ma ml rc mc mus (by omega) W h1 h2)
      have hz := HK.out _ (Below.refl _ _)
      obtain ⟨⟨j1, j2, j3⟩, _, j7, j8, j9⟩ := hz
      have q1 : decide ((0 : Int) ≤ (i : Int)) = true := decide_eq_true (by omega)
      have q2 : decide ((i : Int) < (M : Int)) = true := decide_eq_true (by omega)
      clear how hkr hb hru hwo hmu hmu1 hsmr hbA hb4 hfm hgl hgl3 hgl4 m0 m1 m2 hx0 HAT HP
      go_wp2_with fail
      generalize w3.heap.size = p11 at *
      go_quiet (fail)
      revert nq
      intro n1
      have hb5 := belN (Below.refl (w3.alloc (.cells #[.int .i64 mo, .int .i64 mn, .slice ra ml rc] 31)).heap.size (w3.alloc (.cells #[.int .i64 mo, .int .i64 mn, .slice ra ml rc] 31))) n1
      have HS5 := Lib.hid (HS4.out.next hb5)
      have HK5 : Hid (∀ W, Below ((w3.alloc (.cells #[.int .i64 mo, .int .i64 mn, .slice ra ml rc] 31)).drewN n1).heap.size ((w3.alloc (.cells #[.int .i64 mo, .int .i64 mn, .slice ra ml rc] 31)).drewN n1) W → (W.cell? ⟨p11, 0, none⟩ = some (.int .i64 mo) ∧ W.cell? ⟨p11, 1, none⟩ = some (.int .i64 mn) ∧ W.cell? ⟨p11, 2, none⟩ = some (.slice ra ml rc)) ∧ (W.cell? ⟨gm, offm + i * 3, none⟩ = some (.int .i64 mo) ∧ W.cell? ⟨gm, offm + i * 3 + 1, none⟩ = some (.int .i64 mn) ∧ W.cell? ⟨gm, offm + i * 3 + 2, none⟩ = some (.slice ma ml mc)) ∧ W.cell? ⟨d, 1, none⟩ = some (.slice (some ⟨gm, offm, none⟩) M cm) ∧ W.cell? ⟨v.heap.size, 0, none⟩ = some (.int .i64 ((i : Nat) : Int)) ∧ W.cell? ⟨v.heap.size, 1, none⟩ = some (.int .i64 x1)) := Lib.hid fun W hW => HK.out W (Below.next hb5 hW)
      have HI1 := Lib.hid (isUs_below HI1.out hb5)
      have HI2 := Lib.hid (isUs_below HI2.out hb5)
      generalize (w3.alloc (.cells #[.int .i64 mo, .int .i64 mn, .slice ra ml rc] 31)).drewN n1 = w5 at *
      have k5 := HK5.out w5.drew (Below.refl _ _).drew
      clear hb5 HK HS4 HB4 HC4 j1 j2 j3 j7 j8 j9
      go_wp2_with fail
      refine wp_region_held_drew (S := fun w' => (w'.cell? ⟨p11, 0, none⟩ = some (.int .i64 mo) ∧ w'.cell? ⟨p11, 1, none⟩ = some (.int .i64 mn) ∧ w'.cell? ⟨p11, 2, none⟩ = some (.slice ra ml rc)) ∧ (w'.cell? ⟨gm, offm + i * 3, none⟩ = some (.int .i64 mo) ∧ w'.cell? ⟨gm, offm + i * 3 + 1, none⟩ = some (.int .i64 mn) ∧ w'.cell? ⟨gm, offm + i * 3 + 2, none⟩ = some (.slice ma ml mc)) ∧ w'.cell? ⟨d, 1, none⟩ = some (.slice (some ⟨gm, offm, none⟩) M cm) ∧ w'.cell? ⟨v.heap.size, 0, none⟩ = some (.int .i64 ((i : Nat) : Int)) ∧ w'.cell? ⟨v.heap.size, 1, none⟩ = some (.int .i64 x1)) (by kernel_rfl) ?_ (fun hH => ?_)
      · exact k5
      refine wpAnyH_take (i := 0) (oi := { dst := some 66, op := Go.Op.move (Go.Operand.tmp 12), type := 4, pos := "law.go:53", after := #[], guard := none }) (v := ?_) rfl (by kernel_rfl) (by kernel_rfl) (by kernel_rfl) (fun _ _ _ h => h) (Or.inl ⟨by rfl, ?_⟩) (by assumption) ?_
      rotate_left
      · intro w hSw
        try dsimp only at hSw
        obtain ⟨⟨q1, q2, q3⟩, ⟨q4, q5, q6⟩, q7, q8, q9⟩ := hSw
        go_simp
        all_goals with_reducible rfl
      try simp only [Act.put, List.setIfInBounds_toArray, List.set_cons_zero, List.set_cons_succ]
      refine wpAnyH_take (i := 1) (oi := { dst := some 67, op := Go.Op.move (Go.Operand.tmp 13), type := 4, pos := "law.go:53", after := #[], guard := none }) (v := ?_) rfl (by kernel_rfl) (by kernel_rfl) (by kernel_rfl) (fun _ _ _ h => h) (Or.inl ⟨by rfl, ?_⟩) (by assumption) ?_
      rotate_left
      · intro w hSw
        try dsimp only at hSw
        obtain ⟨⟨q1, q2, q3⟩, ⟨q4, q5, q6⟩, q7, q8, q9⟩ := hSw
        go_simp
        all_goals with_reducible rfl
      try simp only [Act.put, List.setIfInBounds_toArray, List.set_cons_zero, List.set_cons_succ]
      refine wpAnyH_take (i := 2) (oi := { dst := some 68, op := Go.Op.binOp Go.BinOp.neq 4 (Go.Operand.tmp 66) (Go.Operand.tmp 67) 4, type := 4, pos := "law.go:53", after := #[{ on := 0, ground := Go.Ground.data }, { on := 1, ground := Go.Ground.data }], guard := none }) (v := ?_) rfl (by kernel_rfl) (by kernel_rfl) (by kernel_rfl) (fun _ _ _ h => h) (Or.inl ⟨by rfl, ?_⟩) (by assumption) ?_
      rotate_left
      · intro w hSw
        try dsimp only at hSw
        obtain ⟨⟨q1, q2, q3⟩, ⟨q4, q5, q6⟩, q7, q8, q9⟩ := hSw
        go_simp
        all_goals with_reducible rfl
      try simp only [Act.put, List.setIfInBounds_toArray, List.set_cons_zero, List.set_cons_succ]
      refine wpAnyH_take (i := 3) (oi := { dst := some 69, op := Go.Op.move (Go.Operand.tmp 68), type := 4, pos := "law.go:53", after := #[{ on := 2, ground := Go.Ground.data }], guard := none }) (v := ?_) rfl (by kernel_rfl) (by kernel_rfl) (by kernel_rfl) (fun _ _ _ h => h) (Or.inl ⟨by rfl, ?_⟩) (by assumption) ?_
      rotate_left
      · intro w hSw
        try dsimp only at hSw
        obtain ⟨⟨q1, q2, q3⟩, ⟨q4, q5, q6⟩, q7, q8, q9⟩ := hSw
        go_simp
        all_goals with_reducible rfl
      try simp only [Act.put, List.setIfInBounds_toArray, List.set_cons_zero, List.set_cons_succ]
      refine wpAnyH_take (i := 4) (oi := { dst := some 70, op := Go.Op.move (Go.Operand.tmp 13), type := 4, pos := "law.go:53", after := #[{ on := 3, ground := Go.Ground.guard }], guard := some (3, false) }) (v := ?_) rfl (by kernel_rfl) (by kernel_rfl) (by kernel_rfl) (fun _ _ _ h => h) (Or.inl ⟨by rfl, ?_⟩) (by assumption) ?_
      rotate_left
      · intro w hSw
        try dsimp only at hSw
        obtain ⟨⟨q1, q2, q3⟩, ⟨q4, q5, q6⟩, q7, q8, q9⟩ := hSw
        go_simp
        all_goals with_reducible rfl
      try simp only [Act.put, List.setIfInBounds_toArray, List.set_cons_zero, List.set_cons_succ]
      refine wpAnyH_take (i := 5) (oi := { dst := some 71, op := Go.Op.move (Go.Operand.tmp 70), type := 4, pos := "law.go:53", after := #[{ on := 4, ground := Go.Ground.data }, { on := 3, ground := Go.Ground.chain }, { on := 3, ground := Go.Ground.guard }], guard := some (3, false) }) (v := ?_) rfl (by kernel_rfl) (by kernel_rfl) (by kernel_rfl) (fun _ _ _ h => h) (Or.inl ⟨by rfl, ?_⟩) (by assumption) ?_
      rotate_left
      · intro w hSw
        try dsimp only at hSw
        obtain ⟨⟨q1, q2, q3⟩, ⟨q4, q5, q6⟩, q7, q8, q9⟩ := hSw
        go_simp
        all_goals with_reducible rfl
      try simp only [Act.put, List.setIfInBounds_toArray, List.set_cons_zero, List.set_cons_succ]
      refine wpAnyH_take (i := 6) (oi := { dst := some 72, op := Go.Op.load 31 (Go.Operand.tmp 11), type := 31, pos := "law.go:53", after := #[{ on := 5, ground := Go.Ground.guard }], guard := some (5, true) }) (v := ?_) rfl (by kernel_rfl) (by kernel_rfl) (by kernel_rfl) (fun _ _ _ h => h) (Or.inl ⟨by rfl, ?_⟩) (by assumption) ?_
      rotate_left
      · intro w hSw
        try dsimp only at hSw
        obtain ⟨⟨q1, q2, q3⟩, ⟨q4, q5, q6⟩, q7, q8, q9⟩ := hSw
        go_simp
        all_goals with_reducible rfl
      try simp only [Act.put, List.setIfInBounds_toArray, List.set_cons_zero, List.set_cons_succ]
      refine wpAnyH_take (i := 7) (oi := { dst := some 73, op := Go.Op.move (Go.Operand.tmp 8), type := 25, pos := "law.go:53", after := #[{ on := 5, ground := Go.Ground.guard }], guard := some (5, true) }) (v := ?_) rfl (by kernel_rfl) (by kernel_rfl) (by kernel_rfl) (fun _ _ _ h => h) (Or.inl ⟨by rfl, ?_⟩) (by assumption) ?_
      rotate_left
      · intro w hSw
        try dsimp only at hSw
        obtain ⟨⟨q1, q2, q3⟩, ⟨q4, q5, q6⟩, q7, q8, q9⟩ := hSw
        go_simp
        all_goals with_reducible rfl
      try simp only [Act.put, List.setIfInBounds_toArray, List.set_cons_zero, List.set_cons_succ]
      refine wpAnyH_take (i := 8) (oi := { dst := some 74, op := Go.Op.nilCheck (Go.Operand.tmp 73), type := 0, pos := "law.go:53", after := #[{ on := 7, ground := Go.Ground.data }, { on := 5, ground := Go.Ground.guard }], guard := some (5, true) }) (v := ?_) rfl (by kernel_rfl) (by kernel_rfl) (by kernel_rfl) (fun _ _ _ h => h) (Or.inl ⟨by rfl, ?_⟩) (by assumption) ?_
      rotate_left
      · intro w hSw
        try dsimp only at hSw
        obtain ⟨⟨q1, q2, q3⟩, ⟨q4, q5, q6⟩, q7, q8, q9⟩ := hSw
        go_simp
        all_goals with_reducible rfl
      try simp only [Act.put, List.setIfInBounds_toArray, List.set_cons_zero, List.set_cons_succ]
      refine wpAnyH_take (i := 9) (oi := { dst := some 75, op := Go.Op.fieldAddr 37 (Go.Operand.tmp 74) 1, type := 0, pos := "law.go:53", after := #[{ on := 8, ground := Go.Ground.data }, { on := 5, ground := Go.Ground.guard }], guard := some (5, true) }) (v := ?_) rfl (by kernel_rfl) (by kernel_rfl) (by kernel_rfl) (fun _ _ _ h => h) (Or.inl ⟨by rfl, ?_⟩) (by assumption) ?_
      rotate_left
      · intro w hSw
        try dsimp only at hSw
        obtain ⟨⟨q1, q2, q3⟩, ⟨q4, q5, q6⟩, q7, q8, q9⟩ := hSw
        go_simp
        all_goals with_reducible rfl
      try simp only [Act.put, List.setIfInBounds_toArray, List.set_cons_zero, List.set_cons_succ]
      refine wpAnyH_take (i := 10) (oi := { dst := some 76, op := Go.Op.load 22 (Go.Operand.tmp 75), type := 22, pos := "law.go:53", after := #[{ on := 9, ground := Go.Ground.data }, { on := 5, ground := Go.Ground.guard }], guard := some (5, true) }) (v := ?_) rfl (by kernel_rfl) (by kernel_rfl) (by kernel_rfl) (fun _ _ _ h => h) (Or.inl ⟨by rfl, ?_⟩) (by assumption) ?_
      rotate_left
      · intro w hSw
        try dsimp only at hSw
        obtain ⟨⟨q1, q2, q3⟩, ⟨q4, q5, q6⟩, q7, q8, q9⟩ := hSw
        go_simp
        all_goals with_reducible rfl
      try simp only [Act.put, List.setIfInBounds_toArray, List.set_cons_zero, List.set_cons_succ]
      refine wpAnyH_take (i := 11) (oi := { dst := some 77, op := Go.Op.indexAddr 41 (Go.Operand.tmp 5) (Go.Operand.const (Go.Value.int Go.IntKind.i64 0)), type := 0, pos := "law.go:53", after := #[{ on := 5, ground := Go.Ground.guard }], guard := some (5, true) }) (v := ?_) rfl (by kernel_rfl) (by kernel_rfl) (by kernel_rfl) (fun _ _ _ h => h) (Or.inl ⟨by rfl, ?_⟩) (by assumption) ?_
      rotate_left
      · intro w hSw
        try dsimp only at hSw
        obtain ⟨⟨q1, q2, q3⟩, ⟨q4, q5, q6⟩, q7, q8, q9⟩ := hSw
        go_simp
        all_goals with_reducible rfl
      try simp only [Act.put, List.setIfInBounds_toArray, List.set_cons_zero, List.set_cons_succ]
      refine wpAnyH_take (i := 12) (oi := { dst := some 78, op := Go.Op.load 3 (Go.Operand.tmp 77), type := 3, pos := "law.go:53", after := #[{ on := 11, ground := Go.Ground.data }, { on := 5, ground := Go.Ground.guard }], guard := some (5, true) }) (v := ?_) rfl (by kernel_rfl) (by kernel_rfl) (by kernel_rfl) (fun _ _ _ h => h) (Or.inl ⟨by rfl, ?_⟩) (by assumption) ?_
      rotate_left
      · intro w hSw
        try dsimp only at hSw
        obtain ⟨⟨q1, q2, q3⟩, ⟨q4, q5, q6⟩, q7, q8, q9⟩ := hSw
        go_simp
        all_goals with_reducible rfl
      try simp only [Act.put, List.setIfInBounds_toArray, List.set_cons_zero, List.set_cons_succ]
      refine wpAnyH_take (i := 13) (oi := { dst := some 79, op := Go.Op.indexAddr 22 (Go.Operand.tmp 76) (Go.Operand.tmp 78), type := 0, pos := "law.go:53", after := #[{ on := 10, ground := Go.Ground.data }, { on := 12, ground := Go.Ground.data }, { on := 5, ground := Go.Ground.guard }], guard := some (5, true) }) (v := ?_) rfl (by kernel_rfl) (by kernel_rfl) (by kernel_rfl) (fun _ _ _ h => h) (Or.inl ⟨by rfl, ?_⟩) (by assumption) ?_
      rotate_left
      · intro w hSw
        try dsimp only at hSw
        obtain ⟨⟨q1, q2, q3⟩, ⟨q4, q5, q6⟩, q7, q8, q9⟩ := hSw
        go_simp
        all_goals with_reducible rfl
      try simp only [Act.put, List.setIfInBounds_toArray, List.set_cons_zero, List.set_cons_succ]
      refine wpAnyH_take (i := 14) (oi := { dst := some 80, op := Go.Op.load 31 (Go.Operand.tmp 79), type := 31, pos := "law.go:53", after := #[{ on := 13, ground := Go.Ground.data }, { on := 5, ground := Go.Ground.guard }], guard := some (5, true) }) (v := ?_) rfl (by kernel_rfl) (by kernel_rfl) (by kernel_rfl) (fun _ _ _ h => h) (Or.inl ⟨by rfl, ?_⟩) (by assumption) ?_
      rotate_left
      · intro w hSw
        try dsimp only at hSw
        obtain ⟨⟨q1, q2, q3⟩, ⟨q4, q5, q6⟩, q7, q8, q9⟩ := hSw
        go_simp
        all_goals with_reducible rfl
      try simp only [Act.put, List.setIfInBounds_toArray, List.set_cons_zero, List.set_cons_succ]
      refine wpAnyH_ready (rs := [15]) (by kernel_rfl) (by simp) ?_
      refine AllReadyH.cons (o := { dst := some 81, op := Go.Op.call { callee := Go.Callee.value (Go.Operand.func 19), args := #[Go.Operand.tmp 72, Go.Operand.tmp 80], argTypes := #[31, 31] }, type := 4, pos := "law.go:53", after := #[{ on := 6, ground := Go.Ground.data }, { on := 14, ground := Go.Ground.data }, { on := 5, ground := Go.Ground.chain }, { on := 5, ground := Go.Ground.guard }], guard := some (5, true) }) rfl (fun K hK => ?_) ?_
      · go_simp
        refine (HDS w5.drew (isUs_same HI1.out fun _ _ _ => rfl) (isUs_same HI2.out fun _ _ _ => rfl)).out.mono ?_
        rintro e w6 ⟨rfl, hb'⟩
        have hb : Below w5.heap.size w5 w6 := ⟨hb'.os, hb'.tape, hb'.output, hb'.size, hb'.block⟩
        have HS6 := Lib.hid (HS5.out.next hb)
        have k6 := HK5.out _ hb
        clear hb hb'
        go_wp2_with fail
        refine hK.out _ _ ?_ (fun hH => ?_)
        · exact k6
        clear hK K
        try simp only [Act.put, List.setIfInBounds_toArray, List.set_cons_zero, List.set_cons_succ]
        refine wpAnyH_take (i := 16) (oi := { dst := some 82, op := Go.Op.unOp Go.UnOp.not 4 (Go.Operand.tmp 81), type := 4, pos := "law.go:53", after := #[{ on := 15, ground := Go.Ground.data }, { on := 5, ground := Go.Ground.guard }], guard := some (5, true) }) (v := ?_) rfl (by kernel_rfl) (by kernel_rfl) (by kernel_rfl) (fun _ _ _ h => h) (Or.inl ⟨by rfl, ?_⟩) (by assumption) ?_
        rotate_left
        · intro w hSw
          try dsimp only at hSw
          obtain ⟨⟨q1, q2, q3⟩, ⟨q4, q5, q6⟩, q7, q8, q9⟩ := hSw
          go_simp
          all_goals with_reducible rfl
        try simp only [Act.put, List.setIfInBounds_toArray, List.set_cons_zero, List.set_cons_succ]
        refine wpAnyH_take (i := 17) (oi := { dst := some 83, op := Go.Op.pick (Go.Operand.tmp 71) (Go.Operand.tmp 82) (Go.Operand.const (Go.Value.bool false)), type := 4, pos := "law.go:53", after := #[{ on := 5, ground := Go.Ground.data }, { on := 16, ground := Go.Ground.data }, { on := 3, ground := Go.Ground.guard }], guard := some (3, false) }) (v := ?_) rfl (by kernel_rfl) (by kernel_rfl) (by kernel_rfl) (fun _ _ _ h => h) (Or.inl ⟨by rfl, ?_⟩) (by assumption) ?_
        rotate_left
        · intro w hSw
          try dsimp only at hSw
          obtain ⟨⟨q1, q2, q3⟩, ⟨q4, q5, q6⟩, q7, q8, q9⟩ := hSw
          go_simp
          all_goals with_reducible rfl
        try simp only [Act.put, List.setIfInBounds_toArray, List.set_cons_zero, List.set_cons_succ]
        refine wpAnyH_take (i := 18) (oi := { dst := some 84, op := Go.Op.pick (Go.Operand.tmp 69) (Go.Operand.const (Go.Value.bool true)) (Go.Operand.tmp 83), type := 4, pos := "law.go:53", after := #[{ on := 3, ground := Go.Ground.data }, { on := 17, ground := Go.Ground.data }], guard := none }) (v := ?_) rfl (by kernel_rfl) (by kernel_rfl) (by kernel_rfl) (fun _ _ _ h => h) (Or.inl ⟨by rfl, ?_⟩) (by assumption) ?_
        rotate_left
        · intro w hSw
          try dsimp only at hSw
          obtain ⟨⟨q1, q2, q3⟩, ⟨q4, q5, q6⟩, q7, q8, q9⟩ := hSw
          go_simp
          all_goals with_reducible rfl
        try simp only [Act.put, List.setIfInBounds_toArray, List.set_cons_zero, List.set_cons_succ]
        refine wpAnyH_take (i := 19) (oi := { dst := some 85, op := Go.Op.move (Go.Operand.tmp 84), type := 4, pos := "law.go:53", after := #[{ on := 18, ground := Go.Ground.data }, { on := 15, ground := Go.Ground.chain }], guard := none }) (v := ?_) rfl (by kernel_rfl) (by kernel_rfl) (by kernel_rfl) (fun _ _ _ h => h) (Or.inl ⟨by rfl, ?_⟩) (by assumption) ?_
        rotate_left
        · intro w hSw
          try dsimp only at hSw
          obtain ⟨⟨q1, q2, q3⟩, ⟨q4, q5, q6⟩, q7, q8, q9⟩ := hSw
          go_simp
          all_goals with_reducible rfl
        try simp only [Act.put, List.setIfInBounds_toArray, List.set_cons_zero, List.set_cons_succ]
        refine wpAnyH_take (i := 20) (oi := { dst := some 86, op := Go.Op.move (Go.Operand.tmp 13), type := 4, pos := "law.go:53", after := #[{ on := 19, ground := Go.Ground.guard }], guard := some (19, false) }) (v := ?_) rfl (by kernel_rfl) (by kernel_rfl) (by kernel_rfl) (fun _ _ _ h => h) (Or.inl ⟨by rfl, ?_⟩) (by assumption) ?_
        rotate_left
        · intro w hSw
          try dsimp only at hSw
          obtain ⟨⟨q1, q2, q3⟩, ⟨q4, q5, q6⟩, q7, q8, q9⟩ := hSw
          go_simp
          all_goals with_reducible rfl
        try simp only [Act.put, List.setIfInBounds_toArray, List.set_cons_zero, List.set_cons_succ]
        refine wpAnyH_take (i := 21) (oi := { dst := some 87, op := Go.Op.unOp Go.UnOp.not 4 (Go.Operand.tmp 86), type := 4, pos := "law.go:53", after := #[{ on := 20, ground := Go.Ground.data }, { on := 19, ground := Go.Ground.guard }], guard := some (19, false) }) (v := ?_) rfl (by kernel_rfl) (by kernel_rfl) (by kernel_rfl) (fun _ _ _ h => h) (Or.inl ⟨by rfl, ?_⟩) (by assumption) ?_
        rotate_left
        · intro w hSw
          try dsimp only at hSw
          obtain ⟨⟨q1, q2, q3⟩, ⟨q4, q5, q6⟩, q7, q8, q9⟩ := hSw
          go_simp
          all_goals with_reducible rfl
        try simp only [Act.put, List.setIfInBounds_toArray, List.set_cons_zero, List.set_cons_succ]
        refine wpAnyH_take (i := 22) (oi := { dst := some 88, op := Go.Op.move (Go.Operand.tmp 87), type := 4, pos := "law.go:53", after := #[{ on := 21, ground := Go.Ground.data }, { on := 19, ground := Go.Ground.chain }, { on := 19, ground := Go.Ground.guard }], guard := some (19, false) }) (v := ?_) rfl (by kernel_rfl) (by kernel_rfl) (by kernel_rfl) (fun _ _ _ h => h) (Or.inl ⟨by rfl, ?_⟩) (by assumption) ?_
        rotate_left
        · intro w hSw
          try dsimp only at hSw
          obtain ⟨⟨q1, q2, q3⟩, ⟨q4, q5, q6⟩, q7, q8, q9⟩ := hSw
          go_simp
          all_goals with_reducible rfl
        try simp only [Act.put, List.setIfInBounds_toArray, List.set_cons_zero, List.set_cons_succ]
        refine wpAnyH_take (i := 23) (oi := { dst := some 89, op := Go.Op.load 31 (Go.Operand.tmp 11), type := 31, pos := "law.go:53", after := #[{ on := 22, ground := Go.Ground.guard }], guard := some (22, true) }) (v := undef) rfl (by kernel_rfl) (by kernel_rfl) (by kernel_rfl) (fun _ _ _ h => h) (Or.inr ⟨by rfl, rfl⟩) (by assumption) ?_
        try simp only [Act.put, List.setIfInBounds_toArray, List.set_cons_zero, List.set_cons_succ]
        refine wpAnyH_take (i := 24) (oi := { dst := some 90, op := Go.Op.build 31 #[], type := 31, pos := "law.go:53", after := #[{ on := 22, ground := Go.Ground.guard }], guard := some (22, true) }) (v := undef) rfl (by kernel_rfl) (by kernel_rfl) (by kernel_rfl) (fun _ _ _ h => h) (Or.inr ⟨by rfl, rfl⟩) (by assumption) ?_
        try simp only [Act.put, List.setIfInBounds_toArray, List.set_cons_zero, List.set_cons_succ]
        refine wpAnyH_take (i := 25) (oi := { dst := some 91, op := Go.Op.call { callee := Go.Callee.value (Go.Operand.func 19), args := #[Go.Operand.tmp 89, Go.Operand.tmp 90], argTypes := #[31, 31] }, type := 4, pos := "law.go:53", after := #[{ on := 23, ground := Go.Ground.data }, { on := 24, ground := Go.Ground.data }, { on := 22, ground := Go.Ground.chain }, { on := 22, ground := Go.Ground.guard }], guard := some (22, true) }) (v := undef) rfl (by kernel_rfl) (by kernel_rfl) (by kernel_rfl) (fun _ _ _ h => h) (Or.inr ⟨by rfl, rfl⟩) (by assumption) ?_
        try simp only [Act.put, List.setIfInBounds_toArray, List.set_cons_zero, List.set_cons_succ]
        refine wpAnyH_take (i := 26) (oi := { dst := some 92, op := Go.Op.unOp Go.UnOp.not 4 (Go.Operand.tmp 91), type := 4, pos := "law.go:53", after := #[{ on := 25, ground := Go.Ground.data }, { on := 22, ground := Go.Ground.guard }], guard := some (22, true) }) (v := undef) rfl (by kernel_rfl) (by kernel_rfl) (by kernel_rfl) (fun _ _ _ h => h) (Or.inr ⟨by rfl, rfl⟩) (by assumption) ?_
        try simp only [Act.put, List.setIfInBounds_toArray, List.set_cons_zero, List.set_cons_succ]
        refine wpAnyH_take (i := 27) (oi := { dst := some 93, op := Go.Op.pick (Go.Operand.tmp 88) (Go.Operand.tmp 92) (Go.Operand.const (Go.Value.bool false)), type := 4, pos := "law.go:53", after := #[{ on := 22, ground := Go.Ground.data }, { on := 26, ground := Go.Ground.data }, { on := 19, ground := Go.Ground.guard }], guard := some (19, false) }) (v := ?_) rfl (by kernel_rfl) (by kernel_rfl) (by kernel_rfl) (fun _ _ _ h => h) (Or.inl ⟨by rfl, ?_⟩) (by assumption) ?_
        rotate_left
        · intro w hSw
          try dsimp only at hSw
          obtain ⟨⟨q1, q2, q3⟩, ⟨q4, q5, q6⟩, q7, q8, q9⟩ := hSw
          go_simp
          all_goals with_reducible rfl
        try simp only [Act.put, List.setIfInBounds_toArray, List.set_cons_zero, List.set_cons_succ]
        refine wpAnyH_take (i := 28) (oi := { dst := some 94, op := Go.Op.pick (Go.Operand.tmp 85) (Go.Operand.const (Go.Value.bool true)) (Go.Operand.tmp 93), type := 4, pos := "law.go:53", after := #[{ on := 19, ground := Go.Ground.data }, { on := 27, ground := Go.Ground.data }], guard := none }) (v := ?_) rfl (by kernel_rfl) (by kernel_rfl) (by kernel_rfl) (fun _ _ _ h => h) (Or.inl ⟨by rfl, ?_⟩) (by assumption) ?_
        rotate_left
        · intro w hSw
          try dsimp only at hSw
          obtain ⟨⟨q1, q2, q3⟩, ⟨q4, q5, q6⟩, q7, q8, q9⟩ := hSw
          go_simp
          all_goals with_reducible rfl
        try simp only [Act.put, List.setIfInBounds_toArray, List.set_cons_zero, List.set_cons_succ]
        refine wpAnyH_take (i := 29) (oi := { dst := some 95, op := Go.Op.move (Go.Operand.tmp 94), type := 4, pos := "law.go:53", after := #[{ on := 28, ground := Go.Ground.data }, { on := 25, ground := Go.Ground.chain }], guard := none }) (v := ?_) rfl (by kernel_rfl) (by kernel_rfl) (by kernel_rfl) (fun _ _ _ h => h) (Or.inl ⟨by rfl, ?_⟩) (by assumption) ?_
        rotate_left
        · intro w hSw
          try dsimp only at hSw
          obtain ⟨⟨q1, q2, q3⟩, ⟨q4, q5, q6⟩, q7, q8, q9⟩ := hSw
          go_simp
          all_goals with_reducible rfl
        try simp only [Act.put, List.setIfInBounds_toArray, List.set_cons_zero, List.set_cons_succ]
        refine wpAnyH_take (i := 30) (oi := { dst := some 96, op := Go.Op.move (Go.Operand.tmp 7), type := 23, pos := "law.go:53", after := #[{ on := 29, ground := Go.Ground.guard }], guard := some (29, false) }) (v := ?_) rfl (by kernel_rfl) (by kernel_rfl) (by kernel_rfl) (fun _ _ _ h => h) (Or.inl ⟨by rfl, ?_⟩) (by assumption) ?_
        rotate_left
        · intro w hSw
          try dsimp only at hSw
          obtain ⟨⟨q1, q2, q3⟩, ⟨q4, q5, q6⟩, q7, q8, q9⟩ := hSw
          go_simp
          all_goals with_reducible rfl
        try simp only [Act.put, List.setIfInBounds_toArray, List.set_cons_zero, List.set_cons_succ]
        refine wpAnyH_take (i := 31) (oi := { dst := some 97, op := Go.Op.indexAddr 41 (Go.Operand.tmp 5) (Go.Operand.const (Go.Value.int Go.IntKind.i64 1)), type := 0, pos := "law.go:53", after := #[{ on := 29, ground := Go.Ground.guard }], guard := some (29, false) }) (v := ?_) rfl (by kernel_rfl) (by kernel_rfl) (by kernel_rfl) (fun _ _ _ h => h) (Or.inl ⟨by rfl, ?_⟩) (by assumption) ?_
        rotate_left
        · intro w hSw
          try dsimp only at hSw
          obtain ⟨⟨q1, q2, q3⟩, ⟨q4, q5, q6⟩, q7, q8, q9⟩ := hSw
          go_simp
          all_goals with_reducible rfl
        try simp only [Act.put, List.setIfInBounds_toArray, List.set_cons_zero, List.set_cons_succ]
        refine wpAnyH_take (i := 32) (oi := { dst := some 98, op := Go.Op.load 3 (Go.Operand.tmp 97), type := 3, pos := "law.go:53", after := #[{ on := 31, ground := Go.Ground.data }, { on := 29, ground := Go.Ground.guard }], guard := some (29, false) }) (v := ?_) rfl (by kernel_rfl) (by kernel_rfl) (by kernel_rfl) (fun _ _ _ h => h) (Or.inl ⟨by rfl, ?_⟩) (by assumption) ?_
        rotate_left
        · intro w hSw
          try dsimp only at hSw
          obtain ⟨⟨q1, q2, q3⟩, ⟨q4, q5, q6⟩, q7, q8, q9⟩ := hSw
          go_simp
          all_goals with_reducible rfl
        try simp only [Act.put, List.setIfInBounds_toArray, List.set_cons_zero, List.set_cons_succ]
        refine wpAnyH_take (i := 34) (oi := { dst := some 100, op := Go.Op.move (Go.Operand.tmp 8), type := 25, pos := "law.go:53", after := #[{ on := 29, ground := Go.Ground.guard }], guard := some (29, false) }) (v := ?_) rfl (by kernel_rfl) (by kernel_rfl) (by kernel_rfl) (fun _ _ _ h => h) (Or.inl ⟨by rfl, ?_⟩) (by assumption) ?_
        rotate_left
        · intro w hSw
          try dsimp only at hSw
          obtain ⟨⟨q1, q2, q3⟩, ⟨q4, q5, q6⟩, q7, q8, q9⟩ := hSw
          go_simp
          all_goals with_reducible rfl
        try simp only [Act.put, List.setIfInBounds_toArray, List.set_cons_zero, List.set_cons_succ]
        refine wpAnyH_take (i := 35) (oi := { dst := some 101, op := Go.Op.indexAddr 41 (Go.Operand.tmp 5) (Go.Operand.const (Go.Value.int Go.IntKind.i64 1)), type := 0, pos := "law.go:53", after := #[{ on := 29, ground := Go.Ground.guard }], guard := some (29, false) }) (v := ?_) rfl (by kernel_rfl) (by kernel_rfl) (by kernel_rfl) (fun _ _ _ h => h) (Or.inl ⟨by rfl, ?_⟩) (by assumption) ?_
        rotate_left
        · intro w hSw
          try dsimp only at hSw
          obtain ⟨⟨q1, q2, q3⟩, ⟨q4, q5, q6⟩, q7, q8, q9⟩ := hSw
          go_simp
          all_goals with_reducible rfl
        try simp only [Act.put, List.setIfInBounds_toArray, List.set_cons_zero, List.set_cons_succ]
        refine wpAnyH_take (i := 36) (oi := { dst := some 102, op := Go.Op.load 3 (Go.Operand.tmp 101), type := 3, pos := "law.go:53", after := #[{ on := 35, ground := Go.Ground.data }, { on := 29, ground := Go.Ground.guard }], guard := some (29, false) }) (v := ?_) rfl (by kernel_rfl) (by kernel_rfl) (by kernel_rfl) (fun _ _ _ h => h) (Or.inl ⟨by rfl, ?_⟩) (by assumption) ?_
        rotate_left
        · intro w hSw
          try dsimp only at hSw
          obtain ⟨⟨q1, q2, q3⟩, ⟨q4, q5, q6⟩, q7, q8, q9⟩ := hSw
          go_simp
          all_goals with_reducible rfl
        try simp only [Act.put, List.setIfInBounds_toArray, List.set_cons_zero, List.set_cons_succ]
        refine wpAnyH_ready (rs := [33]) (by kernel_rfl) (by simp) ?_
        refine AllReadyH.cons (o := { dst := some 99, op := Go.Op.call { callee := Go.Callee.value (Go.Operand.func 20), args := #[Go.Operand.tmp 96, Go.Operand.tmp 98], argTypes := #[23, 3] }, type := 3, pos := "law.go:53", after := #[{ on := 30, ground := Go.Ground.data }, { on := 32, ground := Go.Ground.data }, { on := 29, ground := Go.Ground.chain }, { on := 29, ground := Go.Ground.guard }], guard := some (29, false) }) rfl (fun K hK => ?_) ?_
        · go_simp
          refine (HTA.out w6 HS6.out.cp.j).mono ?_
          rintro e w10 ⟨rfl, rfl⟩
          go_wp2_with fail
          refine hK.out _ _ ?_ (fun hH => ?_)
          · exact k6
          clear hK K
          try simp only [Act.put, List.setIfInBounds_toArray, List.set_cons_zero, List.set_cons_succ]
          refine wpAnyH_ready (rs := [37]) (by kernel_rfl) (by simp) ?_
          refine AllReadyH.cons (o := { dst := some 103, op := Go.Op.call { callee := Go.Callee.value (Go.Operand.func 21), args := #[Go.Operand.tmp 100, Go.Operand.tmp 102], argTypes := #[25, 3] }, type := 3, pos := "law.go:53", after := #[{ on := 34, ground := Go.Ground.data }, { on := 36, ground := Go.Ground.data }, { on := 33, ground := Go.Ground.chain }, { on := 29, ground := Go.Ground.guard }], guard := some (29, false) }) rfl (fun K hK => ?_) ?_
          · go_simp
            refine (HTB.out w10 HS6.out.cp.m).mono ?_
            rintro e w11 ⟨rfl, rfl⟩
            go_wp2_with fail
            refine hK.out _ _ ?_ (fun hH => ?_)
            · exact k6
            clear hK K
            try simp only [Act.put, List.setIfInBounds_toArray, List.set_cons_zero, List.set_cons_succ]
            refine wpAnyH_take (i := 38) (oi := { dst := some 104, op := Go.Op.binOp Go.BinOp.neq 3 (Go.Operand.tmp 99) (Go.Operand.tmp 103) 3, type := 4, pos := "law.go:53", after := #[{ on := 33, ground := Go.Ground.data }, { on := 37, ground := Go.Ground.data }, { on := 29, ground := Go.Ground.guard }], guard := some (29, false) }) (v := ?_) rfl (by kernel_rfl) (by kernel_rfl) (by kernel_rfl) (fun _ _ _ h => h) (Or.inl ⟨by rfl, ?_⟩) (by assumption) ?_
            rotate_left
            · intro w hSw
              try dsimp only at hSw
              obtain ⟨⟨q1, q2, q3⟩, ⟨q4, q5, q6⟩, q7, q8, q9⟩ := hSw
              go_simp
              all_goals with_reducible rfl
            try simp only [Act.put, List.setIfInBounds_toArray, List.set_cons_zero, List.set_cons_succ]
            refine wpAnyH_take (i := 39) (oi := { dst := some 105, op := Go.Op.pick (Go.Operand.tmp 95) (Go.Operand.const (Go.Value.bool true)) (Go.Operand.tmp 104), type := 4, pos := "law.go:53", after := #[{ on := 29, ground := Go.Ground.data }, { on := 38, ground := Go.Ground.data }], guard := none }) (v := ?_) rfl (by kernel_rfl) (by kernel_rfl) (by kernel_rfl) (fun _ _ _ h => h) (Or.inl ⟨by rfl, ?_⟩) (by assumption) ?_
            rotate_left
            · intro w hSw
              try dsimp only at hSw
              obtain ⟨⟨q1, q2, q3⟩, ⟨q4, q5, q6⟩, q7, q8, q9⟩ := hSw
              go_simp
              all_goals with_reducible rfl
            try simp only [Act.put, List.setIfInBounds_toArray, List.set_cons_zero, List.set_cons_succ]
            refine wpAnyH_done (by kernel_rfl) ?_ _
            have HS := HS6
            clear k5 k6 HK5 HS5 HS6
            have d2 := HS.out.rb.c2
            go_wp2_with fail
            clear d2
            go_loopw [109] (fun v109 wz => ∃ j : Nat, j ≤ ml ∧ v109 = .int .i64 j ∧ St w wz w.heap.size d F G c L p11 mo mn ra ml rc) (fun v109 _ => ml - (intOf v109).toNat)
            case atStart => exact ⟨0, Nat.zero_le _, rfl, HS.out⟩
            case round =>
              obtain ⟨j, hj, rfl, hs⟩ := hrel
              clear HS
              have d2 := hs.rb.c2
              by_cases hjl : j < ml
              · obtain ⟨g, v0, rfl, d0, f0, x1, x2, x3, x4⟩ := hs.r.at' hjl (show 0 < 4 by omega)
                rw [Nat.add_zero] at d0 f0
                have HS := Lib.hid (hs.set x1 x2 x3 x4 (j * 4) (.string ⟨#[111, 116, 104, 101, 114]⟩))
                clear hs x1 x2 x3 x4
                go_wp2
                go_roundw
                case rel => exact ⟨j + 1, by omega, by go_num, HS.out⟩
                case measure => simp [intOf]; omega
              · obtain rfl : j = ml := by omega
                have HP := Lib.hid hs.cp
                clear hs
                have HCA := fun W h => Lib.hid (call_any (L := L) (B := w.heap.size) (b := w.heap.size) (F := F) (c := c) (by rw [HM.out]; omega) W h)
                rw [HM.out] at HCA
                go_wp2_with fail
                refine (HCA _ HP.out.j).out.mono ?_
                rintro e w9 ⟨gx, xs, rfl, hz, _, hown, hof, hb⟩
                have hxl := map_len hof
                rw [HM.out] at hxl
                have hq : Sq w w9 w.heap.size d F G c L gx xs := ⟨HP.out.next hb, hz, fun r hr => own_fg HP.out (hown r hr)⟩
                have HQ := Lib.hid hq
                have HXL : Hid (∀ r ∈ xs, r.len ≤ 1000) := Lib.hid fun r hr => by
                  obtain ⟨_, _, _, _, e1, _⟩ := hown r hr
                  have := (HSM0.out (kR r) (by rw [← hof]; exact List.mem_map.2 ⟨_, hr, rfl⟩)).1
                  rw [e1]
                  exact this
                clear hz hown hof hb hq HP HCA d2
                go_wp2_with fail
                go_loopw [121] (fun v121 wz => ∃ n : Nat, n ≤ M ∧ v121 = .int .i64 n ∧ Sq w wz w.heap.size d F G c L gx xs) (fun v121 _ => M - (intOf v121).toNat)
                case atStart => exact ⟨0, Nat.zero_le _, rfl, HQ.out⟩
                case round =>
                  obtain ⟨n, hn, rfl, hq⟩ := hrel
                  clear HQ
                  by_cases hnl : n < M
                  · obtain ⟨d0, d1, d2⟩ := hq.z.row n (by omega)
                    have hmem : xs.getD n rn0 ∈ xs := rn_mem (by omega)
                    have hxl2 := HXL.out _ hmem
                    generalize hr : xs.getD n rn0 = x at *
                    obtain ⟨xo, xn, xa, xl, xc, xu⟩ := x
                    simp only at d0 d1 d2 hxl2
                    have hbA := Joins.below_alloc1 wr (.cells #[.int .i64 xo, .int .i64 xn, .slice xa xl xc] 31)
                    have HQ := Lib.hid (hq.next hbA)
                    have HRX := Lib.hid (Rb.new wr xo xn xa xl xc)
                    have HMEM := Lib.hid hmem
                    have h2 := HRX.out.c2
                    clear hq hbA hmem hr
                    go_wp2_with fail
                    generalize wr.heap.size = p13 at *
                    clear h2 d0 d1 d2
                    go_loopw [128] (fun v128 wy => ∃ m : Nat, m ≤ xl ∧ v128 = .int .i64 m ∧ Sq w wy w.heap.size d F G c L gx xs ∧ Rb wy p13 xo xn xa xl xc) (fun v128 _ => xl - (intOf v128).toNat)
                    case atStart => exact ⟨0, Nat.zero_le _, rfl, HQ.out, HRX.out⟩
                    case round =>
                      obtain ⟨m, hm, rfl, hq, hrx⟩ := hrel
                      clear HQ HRX
                      have d2 := hrx.c2
                      by_cases hml : m < xl
                      · obtain ⟨g, v0, e, d0, f0, x1, x2, x3, x4⟩ := (hq.each _ HMEM.out).at' hml (show 0 < 4 by omega)
                        simp only at e
                        subst e
                        rw [Nat.add_zero] at d0 f0
                        have HQ := Lib.hid (hq.set x1 x2 x3 x4 (m * 4) (.string ⟨#[101, 108, 115, 101]⟩))
                        have HRX := Lib.hid (hrx.setnew (two_types hrx x4.choose_spec (by decide)) (m * 4) (.string ⟨#[101, 108, 115, 101]⟩))
                        clear hq hrx x1 x2 x3 x4
                        go_wp2
                        go_roundw
                        case rel => exact ⟨m + 1, by omega, by go_num, HQ.out, HRX.out⟩
                        case measure => simp [intOf]; omega
                      · obtain rfl : m = xl := by omega
                        have HQ := Lib.hid hq
                        clear hq hrx d2
                        go_wp2
                        go_roundw
                        case rel => exact ⟨n + 1, by omega, by go_num, HQ.out⟩
                        case measure => simp [intOf]; omega
                  · obtain rfl : M = n := by omega
                    have hp := hq.cp
                    have hsml := hp.j.sm
                    obtain ⟨am, cm, rm, hc1, hrm, hem, hcW⟩ := hp.m.open'
                    rw [HM.out] at hc1 hrm hcW
                    have hCA := call_any (L := L) (B := w.heap.size) (b := w.heap.size) (F := F) (c := c) (by rw [HM.out]; omega) wr.drew hp.drew.j
                    rw [HM.out] at hCA
                    have HCA2 := Lib.hid hCA
                    have HRM := Lib.hid hrm
                    have HEM := Lib.hid hem
                    have HCW2 := Lib.hid hcW
                    have HSML := Lib.hid hsml
                    have HP := Lib.hid hp
                    have z9 := HCW2.out wr.drew (Below.refl _ _).drew
                    clear hp hq hsml hCA hrm hem hcW
                    go_wp2_with fail
                    refine wp_region_held_drew (S := fun w' => w'.cell? ⟨d, 1, none⟩ = some (.slice am M cm)) (by kernel_rfl) ?_ (fun hH => ?_)
                    · exact z9
                    refine wpAnyH_take (i := 0) (oi := { dst := some 138, op := Go.Op.move (Go.Operand.tmp 7), type := 23, pos := "law.go:64", after := #[], guard := none }) (v := ?_) rfl (by kernel_rfl) (by kernel_rfl) (by kernel_rfl) (fun _ _ _ h => h) (Or.inl ⟨by rfl, ?_⟩) (by assumption) ?_
                    rotate_left
                    · intro w hSw
                      try dsimp only at hSw
                      go_simp
                      all_goals with_reducible rfl
                    try simp only [Act.put, List.setIfInBounds_toArray, List.set_cons_zero, List.set_cons_succ]
                    refine wpAnyH_take (i := 2) (oi := { dst := some 140, op := Go.Op.move (Go.Operand.tmp 8), type := 25, pos := "law.go:64", after := #[], guard := none }) (v := ?_) rfl (by kernel_rfl) (by kernel_rfl) (by kernel_rfl) (fun _ _ _ h => h) (Or.inl ⟨by rfl, ?_⟩) (by assumption) ?_
                    rotate_left
                    · intro w hSw
                      try dsimp only at hSw
                      go_simp
                      all_goals with_reducible rfl
                    try simp only [Act.put, List.setIfInBounds_toArray, List.set_cons_zero, List.set_cons_succ]
                    refine wpAnyH_take (i := 3) (oi := { dst := some 141, op := Go.Op.nilCheck (Go.Operand.tmp 140), type := 0, pos := "law.go:64", after := #[{ on := 2, ground := Go.Ground.data }], guard := none }) (v := ?_) rfl (by kernel_rfl) (by kernel_rfl) (by kernel_rfl) (fun _ _ _ h => h) (Or.inl ⟨by rfl, ?_⟩) (by assumption) ?_
                    rotate_left
                    · intro w hSw
                      try dsimp only at hSw
                      go_simp
                      all_goals with_reducible rfl
                    try simp only [Act.put, List.setIfInBounds_toArray, List.set_cons_zero, List.set_cons_succ]
                    refine wpAnyH_take (i := 4) (oi := { dst := some 142, op := Go.Op.fieldAddr 37 (Go.Operand.tmp 141) 1, type := 0, pos := "law.go:64", after := #[{ on := 3, ground := Go.Ground.data }], guard := none }) (v := ?_) rfl (by kernel_rfl) (by kernel_rfl) (by kernel_rfl) (fun _ _ _ h => h) (Or.inl ⟨by rfl, ?_⟩) (by assumption) ?_
                    rotate_left
                    · intro w hSw
                      try dsimp only at hSw
                      go_simp
                      all_goals with_reducible rfl
                    try simp only [Act.put, List.setIfInBounds_toArray, List.set_cons_zero, List.set_cons_succ]
                    refine wpAnyH_take (i := 5) (oi := { dst := some 143, op := Go.Op.load 22 (Go.Operand.tmp 142), type := 22, pos := "law.go:64", after := #[{ on := 4, ground := Go.Ground.data }], guard := none }) (v := ?_) rfl (by kernel_rfl) (by kernel_rfl) (by kernel_rfl) (fun _ _ _ h => h) (Or.inl ⟨by rfl, ?_⟩) (by assumption) ?_
                    rotate_left
                    · intro w hSw
                      try dsimp only at hSw
                      go_simp
                      all_goals with_reducible rfl
                    try simp only [Act.put, List.setIfInBounds_toArray, List.set_cons_zero, List.set_cons_succ]
                    refine wpAnyH_ready (rs := [1]) (by kernel_rfl) (by simp) ?_
                    refine AllReadyH.cons (o := { dst := some 139, op := Go.Op.call { callee := Go.Callee.value (Go.Operand.func 17), args := #[Go.Operand.tmp 138], argTypes := #[23] }, type := 22, pos := "law.go:64", after := #[{ on := 0, ground := Go.Ground.data }], guard := none }) rfl (fun K hK => ?_) ?_
                    · go_simp
                      refine HCA2.out.mono ?_
                      rintro e w5 ⟨g, ys, rfl, hrz, _, how, hxs, hb'⟩
                      have hb : Below wr.heap.size wr w5 := ⟨hb'.os, hb'.tape, hb'.output, hb'.size, hb'.block⟩
                      have hxl := map_len hxs
                      rw [HM.out] at hxl
                      have hix := rz_is hrz how
                      rw [hxl] at hix
                      have HP5 := Lib.hid (HP.out.next hb)
                      have HSA := Lib.hid (sameall_yes (some ⟨g, 0, none⟩) am M M cm ys rm (by omega) (alk_of (hxs.trans HEM.out.symm) M) (fun i hi => us_le HSML.out hxs i (by omega)) w5 hix (isRs_below HRM.out hb))
                      have z5 := HCW2.out w5 hb
                      have HB5 := Lib.hid hb
                      clear hrz how hxs hb' hb hxl hix HP
                      go_wp2_with fail
                      refine hK.out _ _ ?_ (fun hH => ?_)
                      · exact z5
                      clear hK K
                      try simp only [Act.put, List.setIfInBounds_toArray, List.set_cons_zero, List.set_cons_succ]
                      refine wpAnyH_ready (rs := [6]) (by kernel_rfl) (by simp) ?_
                      refine AllReadyH.cons (o := { dst := some 144, op := Go.Op.call { callee := Go.Callee.value (Go.Operand.func 16), args := #[Go.Operand.tmp 139, Go.Operand.tmp 143], argTypes := #[22, 22] }, type := 4, pos := "law.go:64", after := #[{ on := 1, ground := Go.Ground.data }, { on := 5, ground := Go.Ground.data }, { on := 1, ground := Go.Ground.chain }], guard := none }) rfl (fun K hK => ?_) ?_
                      · go_simp
                        refine HSA.out.mono ?_
                        rintro e w6 ⟨rfl, hb⟩
                        have HP6 := Lib.hid (HP5.out.next hb)
                        have z6 := HCW2.out w6 (Below.next HB5.out hb)
                        clear hb
                        go_wp2_with fail
                        refine hK.out _ _ ?_ (fun hH => ?_)
                        · exact z6
                        clear hK K
                        try simp only [Act.put, List.setIfInBounds_toArray, List.set_cons_zero, List.set_cons_succ]
                        refine wpAnyH_take (i := 7) (oi := { dst := some 6, op := Go.Op.assign (Go.Operand.tmp 144), type := 4, pos := "law.go:64", after := #[{ on := 6, ground := Go.Ground.data }, { on := 6, ground := Go.Ground.chain }, { on := 0, ground := Go.Ground.phase }, { on := 1, ground := Go.Ground.phase }, { on := 2, ground := Go.Ground.phase }, { on := 3, ground := Go.Ground.phase }, { on := 4, ground := Go.Ground.phase }, { on := 5, ground := Go.Ground.phase }, { on := 6, ground := Go.Ground.phase }], guard := none }) (v := ?_) rfl (by kernel_rfl) (by kernel_rfl) (by kernel_rfl) (fun _ _ _ h => h) (Or.inl ⟨by rfl, ?_⟩) (by assumption) ?_
                        rotate_left
                        · intro w hSw
                          try dsimp only at hSw
                          go_simp
                          all_goals with_reducible rfl
                        try simp only [Act.put, List.setIfInBounds_toArray, List.set_cons_zero, List.set_cons_succ]
                        refine wpAnyH_done (by kernel_rfl) ?_ _
                        clear z6 z5 z9
                        go_wp2
                        go_ret
                        exact ⟨rfl, Below.next HBX.out HP6.out.bel⟩
                      exact AllReadyH.nil
                    exact AllReadyH.nil
          exact AllReadyH.nil
        exact AllReadyH.nil
      exact AllReadyH.nil
end Go.Proofs.Ytgifbkmpaejdbaa

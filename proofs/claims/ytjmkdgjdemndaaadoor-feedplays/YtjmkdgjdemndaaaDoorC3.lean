/- may and Add. -/
import Derived.Test.YtjmkdgjdemndaaaDoorC2
import Derived.Test.YtjmkdgjdemndaaaDoorI1
namespace Go.Proofs.YtjmkdgjdemndaaaDoor
open Go Go.RowKit
set_option maxRecDepth 20000
theorem com_cell {T : TypeId} {B b : Nat} {W w3 w5 : World} {cs : Array Value} {v : Value} {S : Nat → Prop} {rs : List Rn} {O : Obj} (h : Kn T B W b cs v S rs) (hb : Below W.heap.size W w3) (hT : T ≠ 43) (hgr : (w3.alloc O).grownBy w5 v.ownBlock) (i : Nat) (x : Value) (hx : cs[i]? = some x) : w5.cell? ⟨b, i, none⟩ = some x := by
  have h4 : Kn T B (w3.alloc O) b cs v S rs := (h.next hb).next (Joins.below_alloc1 _ _)
  exact cell_at ((hgr.block b h4.lt (fun e => h4.vb hT e.symm)).trans h4.blk) i _ hx
/-- How it stands when Add returns: w2 ahead of the copy, w3 behind it, w5 behind the append. -/
theorem com_done {B b : Nat} {w w2 w3 w5 : World} {cs : Array Value} {ax a' : Option Addr} {cp c' : Nat} {S : Nat → Prop} {rs : List Rn} {c : Int} {L : List Cr} {o n : Int} {us : List Up} {O : Obj} {on : Nat}
    (h : Kn 69 B w b cs (.slice ax rs.length cp) S rs) (hP : Pc c L (.slice ax rs.length cp) cs) (he : rs.map kR = L) (hs : ∀ r ∈ L, Sm r.2.2) (hg : Good c L) (h1 : 1 ≤ c) (h2 : c ≤ 64) (hsm : Sm us) (hce : comE c L (o, n, us) = 0)
    (hA : Below w.heap.size w w2) (hb3 : Below w2.heap.size w2 w3) (hrw : Rw w3 (w2.heap.size + 2) us)
    (hrow : RowR B w5 (.slice a' (rs.length + 1) c') (rs ++ [⟨o, n, some ⟨w2.heap.size + 2, 0, none⟩, us.length, us.length, us⟩])) (hgr : (w3.alloc O).grownBy w5 (Value.slice ax rs.length cp).ownBlock) (hown : (Value.slice a' (rs.length + 1) c').ownBlock = (Value.slice ax rs.length cp).ownBlock ∨ ∃ j, (Value.slice a' (rs.length + 1) c').ownBlock = some j ∧ w2.heap.size ≤ j)
    (ho : o = (on : Int)) :
    ∃ F', Cx 69 Pc B ((w5.setCell ⟨b, 66, none⟩ (.slice a' (rs.length + 1) c')).setCell ⟨b, 1 + on, none⟩ (.int .i64 n)) b F' c (L ++ [(o, n, us)]) ∧ Lv w ((w5.setCell ⟨b, 66, none⟩ (.slice a' (rs.length + 1) c')).setCell ⟨b, 1 + on, none⟩ (.int .i64 n)) (Jf b (.slice ax rs.length cp) S) ∧ ∀ k, F' k → Jf b (.slice ax rs.length cp) S k ∨ w.heap.size ≤ k := by
  have hk2 := h.next hA
  have hf6 := com_fin hk2 hb3 (r := ⟨o, n, some ⟨w2.heap.size + 2, 0, none⟩, us.length, us.length, us⟩) ⟨hrw.is, Nat.le_refl _, fun e => by cases e⟩ rfl (by have := hk2.lo; have := hk2.lt; omega) ⟨_, hrw⟩ (by decide) (by decide) O 66 hrow hgr
  have hl6 : Lv w2 (w5.setCell ⟨b, 66, none⟩ (.slice a' (rs.length + 1) c')) (Jf b (.slice ax rs.length cp) S) := com_left hb3 hgr
  have hk7 := hf6.set (by decide) (by decide) (1 + on) (.int .i64 n)
  obtain ⟨hm0, _⟩ := comE_zero hce
  obtain ⟨hm1, _⟩ := mayR_zero hm0
  unfold headOk at hm1
  simp only at hm1
  have hP7 := hP.add (v' := .slice a' (rs.length + 1) c') (o, n, us) on ho (by omega) (by omega)
  have sA := hA.size
  refine ⟨_, ⟨_, _, _, _, hk7, hP7, ?_, fun r hr => ?_, hg.snoc hce, h1, h2, rfl⟩, ((Lv.ofBelow hA _).trans hl6).trans (Lv.set (.inl rfl) _ _), fun k hk => ?_⟩
  · rw [List.map_append, he]
    rfl
  · rcases List.mem_append.1 hr with hr | hr
    · exact hs r hr
    · rw [List.mem_singleton.1 hr]
      exact hsm
  · rcases com_foot (Nat.le_add_right _ 2) hown k hk with hk | hk
    · exact .inl hk
    · exact .inr (by omega)
section
variable {B b : Nat} {F : Nat → Prop} {c : Int} {L : List Cr}
set_option maxHeartbeats 2000000 in
theorem cmay_err (o n : Int) (a : Option Addr) (len cap : Nat) (us : List Up) (w : World) (hu : IsUs w a len us) (h : Cx 69 Pc B w b F c L) (hm : ¬ mayR o n us = 0) :
    Calls Tryd.prog 42 #[.pointer (some ⟨b, 0, none⟩), .agg #[.int .i64 o, .int .i64 n, .slice a len cap]] w fun e w' => e = .returned (.int .i64 (mayR o n us)) ∧ Below w.heap.size w w' := by
  have hA := Joins.below_alloc1 w (.cells #[.int .i64 o, .int .i64 n, .slice a len cap] 43)
  have hr := Rb.new w o n a len cap
  have d0 := hr.c0
  have d1 := hr.c1
  have d2 := hr.c2
  have HM := fun w hu => Lib.hid (rndmay_any o n a len cap us w hu)
  have HU := Lib.hid (isUs_below hu hA)
  have HA := Lib.hid hA
  have HR := Lib.hid hr
  have HX := Lib.hid h
  obtain ⟨er, her⟩ : ∃ er, mayR o n us = er := ⟨_, rfl⟩
  rw [her] at HM hm ⊢
  have k1 : (er == 0) = false := by rw [beq_eq_false_iff_ne]; exact hm
  clear hA hr hu h hm her
  go_enter Tryd.func42, Tryd.ntmps42
  go_wp2_with fail
  refine (HM _ HU.out).out.mono ?_
  rintro e w2 ⟨rfl, hb⟩
  have HA2 := Lib.hid (Below.next HA.out hb)
  clear hb HM d0 d1 d2
  go_wp2
  go_ret
  exact ⟨rfl, HA2.out⟩
set_option maxHeartbeats 2000000 in
theorem cmay_11 (o n : Int) (a : Option Addr) (len cap : Nat) (us : List Up) (w : World) (hu : IsUs w a len us) (h : Cx 69 Pc B w b F c L) (hm : mayR o n us = 0) (hq : c < o ∧ (lastL o L = 0 ∨ 0 < lastL o L + 1)) :
    Calls Tryd.prog 42 #[.pointer (some ⟨b, 0, none⟩), .agg #[.int .i64 o, .int .i64 n, .slice a len cap]] w fun e w' => e = .returned (.int .i64 11) ∧ Below w.heap.size w w' := by
  have hA := Joins.below_alloc1 w (.cells #[.int .i64 o, .int .i64 n, .slice a len cap] 43)
  have hr := Rb.new w o n a len cap
  have d0 := hr.c0
  have d1 := hr.c1
  have d2 := hr.c2
  have HM := fun w hu => Lib.hid (rndmay_any o n a len cap us w hu)
  have HU := Lib.hid (isUs_below hu hA)
  have HA := Lib.hid hA
  have HR := Lib.hid hr
  have HX := Lib.hid h
  rw [hm] at HM
  have HL := fun w h => Lib.hid (clast_any (B := B) (b := b) (F := F) (c := c) (L := L) o w h)
  have HC0 : Hid (∀ W, Below w.heap.size w W → W.cell? ⟨b, 0, none⟩ = some (.int .i64 c)) := Lib.hid fun W hW => by
    obtain ⟨cs, v, S, rs, hj, hp, _⟩ := h
    exact (hj.next hW).c 0 _ hp.2.1
  have hbd := h.good.bound o
  obtain ⟨x, hx⟩ : ∃ x, lastL o L = x := ⟨_, rfl⟩
  rw [hx] at HL hbd hq
  obtain ⟨N, hN⟩ : ∃ N, x + 1 = N := ⟨_, rfl⟩
  have hwr : IntKind.i64.wrap (x + 1) = N := by
    rw [hN]
    exact i64_id (by omega) (by omega)
  rw [hN] at hq
  have q1 : decide (c < o) = true := decide_eq_true (by omega)
  clear hA hr hu h hm hx hbd hN hq
  go_enter Tryd.func42, Tryd.ntmps42
  go_wp2_with fail
  refine (HM _ HU.out).out.mono ?_
  rintro e w2 ⟨rfl, hb⟩
  have HA2 := Lib.hid (Below.next HA.out hb)
  have hr2 := HR.out.next hb
  have d0 := hr2.c0
  have d1 := hr2.c1
  have d2 := hr2.c2
  have c0 := HC0.out _ HA2.out
  clear hb HM hr2
  go_wp2_with fail
  refine (HL _ (HX.out.next HA2.out)).out.mono ?_
  rintro e w3 ⟨rfl, rfl⟩
  go_wp2_with fail
  go_quiet (fail)
  go_wp2
  go_ret
  exact ⟨rfl, belN HA2.out _⟩
set_option maxHeartbeats 2000000 in
theorem cmay_12 (o n : Int) (a : Option Addr) (len cap : Nat) (us : List Up) (w : World) (hu : IsUs w a len us) (h : Cx 69 Pc B w b F c L) (hm : mayR o n us = 0) (hq : ¬ c < o ∧ n ≤ lastL o L ∧ (lastL o L = 0 ∨ 0 < lastL o L + 1)) :
    Calls Tryd.prog 42 #[.pointer (some ⟨b, 0, none⟩), .agg #[.int .i64 o, .int .i64 n, .slice a len cap]] w fun e w' => e = .returned (.int .i64 12) ∧ Below w.heap.size w w' := by
  have hA := Joins.below_alloc1 w (.cells #[.int .i64 o, .int .i64 n, .slice a len cap] 43)
  have hr := Rb.new w o n a len cap
  have d0 := hr.c0
  have d1 := hr.c1
  have d2 := hr.c2
  have HM := fun w hu => Lib.hid (rndmay_any o n a len cap us w hu)
  have HU := Lib.hid (isUs_below hu hA)
  have HA := Lib.hid hA
  have HR := Lib.hid hr
  have HX := Lib.hid h
  rw [hm] at HM
  have HL := fun w h => Lib.hid (clast_any (B := B) (b := b) (F := F) (c := c) (L := L) o w h)
  have HC0 : Hid (∀ W, Below w.heap.size w W → W.cell? ⟨b, 0, none⟩ = some (.int .i64 c)) := Lib.hid fun W hW => by
    obtain ⟨cs, v, S, rs, hj, hp, _⟩ := h
    exact (hj.next hW).c 0 _ hp.2.1
  have hbd := h.good.bound o
  obtain ⟨x, hx⟩ : ∃ x, lastL o L = x := ⟨_, rfl⟩
  rw [hx] at HL hbd hq
  obtain ⟨N, hN⟩ : ∃ N, x + 1 = N := ⟨_, rfl⟩
  have hwr : IntKind.i64.wrap (x + 1) = N := by
    rw [hN]
    exact i64_id (by omega) (by omega)
  rw [hN] at hq
  have q1 : decide (c < o) = false := decide_eq_false (by omega)
  have q2 : decide (n ≤ x) = true := decide_eq_true (by omega)
  clear hA hr hu h hm hx hbd hN hq
  go_enter Tryd.func42, Tryd.ntmps42
  go_wp2_with fail
  refine (HM _ HU.out).out.mono ?_
  rintro e w2 ⟨rfl, hb⟩
  have HA2 := Lib.hid (Below.next HA.out hb)
  have hr2 := HR.out.next hb
  have d0 := hr2.c0
  have d1 := hr2.c1
  have d2 := hr2.c2
  have c0 := HC0.out _ HA2.out
  clear hb HM hr2
  go_wp2_with fail
  refine (HL _ (HX.out.next HA2.out)).out.mono ?_
  rintro e w3 ⟨rfl, rfl⟩
  go_wp2_with fail
  go_quiet (fail)
  go_wp2
  go_ret
  exact ⟨rfl, belN HA2.out _⟩
set_option maxHeartbeats 2000000 in
theorem cmay_10 (o n : Int) (a : Option Addr) (len cap : Nat) (us : List Up) (w : World) (hu : IsUs w a len us) (h : Cx 69 Pc B w b F c L) (hm : mayR o n us = 0) (hq : ¬ c < o ∧ ¬ n ≤ lastL o L ∧ lastL o L + 1 < n) :
    Calls Tryd.prog 42 #[.pointer (some ⟨b, 0, none⟩), .agg #[.int .i64 o, .int .i64 n, .slice a len cap]] w fun e w' => e = .returned (.int .i64 10) ∧ Below w.heap.size w w' := by
  have hA := Joins.below_alloc1 w (.cells #[.int .i64 o, .int .i64 n, .slice a len cap] 43)
  have hr := Rb.new w o n a len cap
  have d0 := hr.c0
  have d1 := hr.c1
  have d2 := hr.c2
  have HM := fun w hu => Lib.hid (rndmay_any o n a len cap us w hu)
  have HU := Lib.hid (isUs_below hu hA)
  have HA := Lib.hid hA
  have HR := Lib.hid hr
  have HX := Lib.hid h
  rw [hm] at HM
  have HL := fun w h => Lib.hid (clast_any (B := B) (b := b) (F := F) (c := c) (L := L) o w h)
  have HC0 : Hid (∀ W, Below w.heap.size w W → W.cell? ⟨b, 0, none⟩ = some (.int .i64 c)) := Lib.hid fun W hW => by
    obtain ⟨cs, v, S, rs, hj, hp, _⟩ := h
    exact (hj.next hW).c 0 _ hp.2.1
  have hbd := h.good.bound o
  obtain ⟨x, hx⟩ : ∃ x, lastL o L = x := ⟨_, rfl⟩
  rw [hx] at HL hbd hq
  obtain ⟨N, hN⟩ : ∃ N, x + 1 = N := ⟨_, rfl⟩
  have hwr : IntKind.i64.wrap (x + 1) = N := by
    rw [hN]
    exact i64_id (by omega) (by omega)
  rw [hN] at hq
  have q1 : decide (c < o) = false := decide_eq_false (by omega)
  have q2 : decide (n ≤ x) = false := decide_eq_false (by omega)
  have q3 : decide (N < n) = true := decide_eq_true (by omega)
  clear hA hr hu h hm hx hbd hN hq
  go_enter Tryd.func42, Tryd.ntmps42
  go_wp2_with fail
  refine (HM _ HU.out).out.mono ?_
  rintro e w2 ⟨rfl, hb⟩
  have HA2 := Lib.hid (Below.next HA.out hb)
  have hr2 := HR.out.next hb
  have d0 := hr2.c0
  have d1 := hr2.c1
  have d2 := hr2.c2
  have c0 := HC0.out _ HA2.out
  clear hb HM hr2
  go_wp2_with fail
  refine (HL _ (HX.out.next HA2.out)).out.mono ?_
  rintro e w3 ⟨rfl, rfl⟩
  go_wp2_with fail
  go_quiet (fail)
  go_wp2
  go_ret
  exact ⟨rfl, belN HA2.out _⟩
set_option maxHeartbeats 2000000 in
theorem cmay_0 (o n : Int) (a : Option Addr) (len cap : Nat) (us : List Up) (w : World) (hu : IsUs w a len us) (h : Cx 69 Pc B w b F c L) (hm : mayR o n us = 0) (hq : ¬ c < o ∧ ¬ n ≤ lastL o L ∧ ¬ lastL o L + 1 < n) :
    Calls Tryd.prog 42 #[.pointer (some ⟨b, 0, none⟩), .agg #[.int .i64 o, .int .i64 n, .slice a len cap]] w fun e w' => e = .returned (.int .i64 0) ∧ Below w.heap.size w w' := by
  have hA := Joins.below_alloc1 w (.cells #[.int .i64 o, .int .i64 n, .slice a len cap] 43)
  have hr := Rb.new w o n a len cap
  have d0 := hr.c0
  have d1 := hr.c1
  have d2 := hr.c2
  have HM := fun w hu => Lib.hid (rndmay_any o n a len cap us w hu)
  have HU := Lib.hid (isUs_below hu hA)
  have HA := Lib.hid hA
  have HR := Lib.hid hr
  have HX := Lib.hid h
  rw [hm] at HM
  have HL := fun w h => Lib.hid (clast_any (B := B) (b := b) (F := F) (c := c) (L := L) o w h)
  have HC0 : Hid (∀ W, Below w.heap.size w W → W.cell? ⟨b, 0, none⟩ = some (.int .i64 c)) := Lib.hid fun W hW => by
    obtain ⟨cs, v, S, rs, hj, hp, _⟩ := h
    exact (hj.next hW).c 0 _ hp.2.1
  have hbd := h.good.bound o
  obtain ⟨x, hx⟩ : ∃ x, lastL o L = x := ⟨_, rfl⟩
  rw [hx] at HL hbd hq
  obtain ⟨N, hN⟩ : ∃ N, x + 1 = N := ⟨_, rfl⟩
  have hwr : IntKind.i64.wrap (x + 1) = N := by
    rw [hN]
    exact i64_id (by omega) (by omega)
  rw [hN] at hq
  have q1 : decide (c < o) = false := decide_eq_false (by omega)
  have q2 : decide (n ≤ x) = false := decide_eq_false (by omega)
  have q3 : decide (N < n) = false := decide_eq_false (by omega)
  clear hA hr hu h hm hx hbd hN hq
  go_enter Tryd.func42, Tryd.ntmps42
  go_wp2_with fail
  refine (HM _ HU.out).out.mono ?_
  rintro e w2 ⟨rfl, hb⟩
  have HA2 := Lib.hid (Below.next HA.out hb)
  have hr2 := HR.out.next hb
  have d0 := hr2.c0
  have d1 := hr2.c1
  have d2 := hr2.c2
  have c0 := HC0.out _ HA2.out
  clear hb HM hr2
  go_wp2_with fail
  refine (HL _ (HX.out.next HA2.out)).out.mono ?_
  rintro e w3 ⟨rfl, rfl⟩
  go_wp2_with fail
  go_quiet (fail)
  go_wp2
  go_ret
  exact ⟨rfl, belN HA2.out _⟩
theorem cmay_any (o n : Int) (a : Option Addr) (len cap : Nat) (us : List Up) (w : World) (hu : IsUs w a len us) (h : Cx 69 Pc B w b F c L) :
    Calls Tryd.prog 42 #[.pointer (some ⟨b, 0, none⟩), .agg #[.int .i64 o, .int .i64 n, .slice a len cap]] w fun e w' => e = .returned (.int .i64 (comE c L (o, n, us))) ∧ Below w.heap.size w w' := by
  have hbd := h.good.bound o
  by_cases hm : mayR o n us = 0
  · by_cases h1 : c < o
    · have e : comE c L (o, n, us) = 11 := by unfold comE; rw [if_pos hm, if_pos h1]
      rw [e]
      exact cmay_11 o n a len cap us w hu h hm ⟨h1, by omega⟩
    · by_cases h2 : n ≤ lastL o L
      · have e : comE c L (o, n, us) = 12 := by unfold comE; rw [if_pos hm, if_neg h1, if_pos h2]
        rw [e]
        exact cmay_12 o n a len cap us w hu h hm ⟨h1, h2, by omega⟩
      · by_cases h3 : lastL o L + 1 < n
        · have e : comE c L (o, n, us) = 10 := by unfold comE; rw [if_pos hm, if_neg h1, if_neg h2, if_pos h3]
          rw [e]
          exact cmay_10 o n a len cap us w hu h hm ⟨h1, h2, h3⟩
        · have e : comE c L (o, n, us) = 0 := by unfold comE; rw [if_pos hm, if_neg h1, if_neg h2, if_neg h3]
          rw [e]
          exact cmay_0 o n a len cap us w hu h hm ⟨h1, h2, h3⟩
  · have e : comE c L (o, n, us) = mayR o n us := if_neg hm
    rw [e]
    exact cmay_err o n a len cap us w hu h hm
set_option maxHeartbeats 2000000 in
theorem cadd_no (o n : Int) (a : Option Addr) (len cap : Nat) (us : List Up) (er : Int) (he : comE c L (o, n, us) = er) (h0 : ¬ er = 0) (w : World) (hu : IsUs w a len us) (h : Cx 69 Pc B w b F c L) :
    Calls Tryd.prog 19 #[.pointer (some ⟨b, 0, none⟩), .agg #[.int .i64 o, .int .i64 n, .slice a len cap]] w fun e w' => e = .returned (.int .i64 er) ∧ Below w.heap.size w w' := by
  have hA := Joins.below_alloc1 w (.cells #[.int .i64 o, .int .i64 n, .slice a len cap] 43)
  have hr := Rb.new w o n a len cap
  have d0 := hr.c0
  have d1 := hr.c1
  have d2 := hr.c2
  have HM := Lib.hid (cmay_any o n a len cap us _ (isUs_below hu hA) (h.next hA))
  rw [he] at HM
  have k1 : (er == 0) = false := by rw [beq_eq_false_iff_ne]; exact h0
  have HA := Lib.hid hA
  clear hA hr hu h h0 he
  go_enter Tryd.func19, Tryd.ntmps19
  go_wp2_with fail
  refine HM.out.mono ?_
  rintro e w2 ⟨rfl, hb⟩
  have HA2 := Lib.hid (Below.next HA.out hb)
  clear hb HM d0 d1 d2
  go_wp2
  go_ret
  exact ⟨rfl, HA2.out⟩
set_option maxHeartbeats 8000000 in
theorem cadd_ok (hn : L.length ≤ 1000) (on : Nat) (n : Int) (a : Option Addr) (len cap : Nat) (us : List Up) (hsm : Sm us) (he : comE c L (((on : Nat) : Int), n, us) = 0) (w : World) (hu : IsUs w a len us) (h : Cx 69 Pc B w b F c L) :
    Calls Tryd.prog 19 #[.pointer (some ⟨b, 0, none⟩), .agg #[.int .i64 ((on : Nat) : Int), .int .i64 n, .slice a len cap]] w fun e w' => e = .returned (.int .i64 0) ∧ ∃ F', Cx 69 Pc B w' b F' c (L ++ [(((on : Nat) : Int), n, us)]) ∧ Lv w w' F ∧ ∀ k, F' k → F k ∨ w.heap.size ≤ k := by
  obtain rfl := hu.size
  have hA := Joins.below_alloc1 w (.cells #[.int .i64 ((on : Nat) : Int), .int .i64 n, .slice a us.length cap] 43)
  have hr := Rb.new w (on : Int) n a us.length cap
  have d0 := hr.c0
  have d1 := hr.c1
  have d2 := hr.c2
  have HM := Lib.hid (cmay_any ((on : Nat) : Int) n a us.length cap us _ (isUs_below hu hA) (h.next hA))
  rw [he] at HM
  obtain ⟨cs, v, S, rs, hj, hp, hmp, hs, hg, h1, h2, rfl⟩ := h
  obtain ⟨ax, cp, rfl, _⟩ := hj.is
  have hrl : rs.length = L.length := by rw [← hmp, List.length_map]
  rw [← hrl] at hn
  have hon1 : 1 ≤ on ∧ on ≤ 64 := by
    obtain ⟨h3, _⟩ := comE_zero he
    obtain ⟨h4, _⟩ := mayR_zero h3
    unfold headOk at h4
    simp only at h4
    omega
  have hon : (on : Int) < 65 := by omega
  have HON := Lib.hid hon1
  have HC := fun w hu' => Lib.hid (rndcopy_any ((on : Nat) : Int) n a us.length cap us (by have := hsm.1; omega) (fun j hj => hsm.2 j hj) w hu')
  have HA := Lib.hid hA
  have HJ := Lib.hid hj
  have HP := Lib.hid hp
  have HE := Lib.hid hmp
  have HS := Lib.hid hs
  have HG := Lib.hid hg
  have HSM := Lib.hid hsm
  have HCE := Lib.hid he
  have HC1 := Lib.hid (And.intro h1 h2)
  have HR := Lib.hid hr
  have HU := Lib.hid hu
  have HNE : Hid (w.heap.size ≠ b) := Lib.hid (by have := hj.lt; omega)
  clear hA hr hu he hj hp hmp hs hg h1 h2 hsm hrl hon1
  go_enter Tryd.func19, Tryd.ntmps19
  go_wp2_with fail
  refine HM.out.mono ?_
  rintro e w2 ⟨rfl, hb⟩
  have HA2 := Lib.hid (Below.next HA.out hb)
  have hr2 := HR.out.next hb
  have d0 := hr2.c0
  have d1 := hr2.c1
  have d2 := hr2.c2
  have c66 := (HJ.out.next HA2.out).c 66 _ HP.out.2.2.1
  have HR2 := Lib.hid hr2
  have HU2 := Lib.hid (isUs_below HU.out HA2.out)
  clear hb HM hr2 HR HU HA
  go_wp2_with fail
  refine wp_region_held_drew (S := fun w' => w'.cell? ⟨w.heap.size, 0, none⟩ = some (.int .i64 ((on : Nat) : Int)) ∧ w'.cell? ⟨w.heap.size, 1, none⟩ = some (.int .i64 n) ∧ w'.cell? ⟨w.heap.size, 2, none⟩ = some (.slice a us.length cap)) (by kernel_rfl) ?_ (fun hH => ?_)
  · exact ⟨d0, d1, d2⟩
  refine wpAnyH_take (i := 0) (oi := { dst := some 12, op := Go.Op.move (Go.Operand.tmp 0), type := 24, pos := "commit.go:26", after := #[], guard := none }) (v := ?_) rfl (by kernel_rfl) (by kernel_rfl) (by kernel_rfl) (fun _ _ _ h => h) (Or.inl ⟨by rfl, ?_⟩) (by assumption) ?_
  rotate_left
  · intro w hSw
    try dsimp only at hSw
    obtain ⟨q0, q1, q2⟩ := hSw
    go_simp
    all_goals with_reducible rfl
  try simp only [Act.put, List.setIfInBounds_toArray, List.set_cons_zero, List.set_cons_succ]
  refine wpAnyH_take (i := 1) (oi := { dst := some 13, op := Go.Op.move (Go.Operand.tmp 0), type := 24, pos := "commit.go:26", after := #[], guard := none }) (v := ?_) rfl (by kernel_rfl) (by kernel_rfl) (by kernel_rfl) (fun _ _ _ h => h) (Or.inl ⟨by rfl, ?_⟩) (by assumption) ?_
  rotate_left
  · intro w hSw
    try dsimp only at hSw
    obtain ⟨q0, q1, q2⟩ := hSw
    go_simp
    all_goals with_reducible rfl
  try simp only [Act.put, List.setIfInBounds_toArray, List.set_cons_zero, List.set_cons_succ]
  refine wpAnyH_take (i := 2) (oi := { dst := some 14, op := Go.Op.nilCheck (Go.Operand.tmp 13), type := 0, pos := "commit.go:26", after := #[{ on := 1, ground := Go.Ground.data }], guard := none }) (v := ?_) rfl (by kernel_rfl) (by kernel_rfl) (by kernel_rfl) (fun _ _ _ h => h) (Or.inl ⟨by rfl, ?_⟩) (by assumption) ?_
  rotate_left
  · intro w hSw
    try dsimp only at hSw
    obtain ⟨q0, q1, q2⟩ := hSw
    go_simp
    all_goals with_reducible rfl
  try simp only [Act.put, List.setIfInBounds_toArray, List.set_cons_zero, List.set_cons_succ]
  refine wpAnyH_take (i := 3) (oi := { dst := some 15, op := Go.Op.fieldAddr 69 (Go.Operand.tmp 14) 2, type := 0, pos := "commit.go:26", after := #[{ on := 2, ground := Go.Ground.data }], guard := none }) (v := ?_) rfl (by kernel_rfl) (by kernel_rfl) (by kernel_rfl) (fun _ _ _ h => h) (Or.inl ⟨by rfl, ?_⟩) (by assumption) ?_
  rotate_left
  · intro w hSw
    try dsimp only at hSw
    obtain ⟨q0, q1, q2⟩ := hSw
    go_simp
    all_goals with_reducible rfl
  try simp only [Act.put, List.setIfInBounds_toArray, List.set_cons_zero, List.set_cons_succ]
  refine wpAnyH_take (i := 5) (oi := { dst := some 17, op := Go.Op.load 43 (Go.Operand.tmp 3), type := 43, pos := "commit.go:26", after := #[], guard := none }) (v := ?_) rfl (by kernel_rfl) (by kernel_rfl) (by kernel_rfl) (fun _ _ _ h => h) (Or.inl ⟨by rfl, ?_⟩) (by assumption) ?_
  rotate_left
  · intro w hSw
    try dsimp only at hSw
    obtain ⟨q0, q1, q2⟩ := hSw
    go_simp
    all_goals with_reducible rfl
  try simp only [Act.put, List.setIfInBounds_toArray, List.set_cons_zero, List.set_cons_succ]
  refine wpAnyH_ready (rs := [4, 6]) (by kernel_rfl) (by simp) ?_
  refine AllReadyH.cons (o := { dst := some 16, op := Go.Op.load 57 (Go.Operand.tmp 15), type := 57, pos := "commit.go:26", after := #[{ on := 3, ground := Go.Ground.data }], guard := none }) rfl (fun K hK => ?_) ?_
  · go_simp
    refine hK.out _ _ ?_ (fun hH => ?_)
    · exact ⟨d0, d1, d2⟩
    clear hK K
    try simp only [Act.put, List.setIfInBounds_toArray, List.set_cons_zero, List.set_cons_succ]
    refine wpAnyH_ready (rs := [6]) (by kernel_rfl) (by simp) ?_
    refine AllReadyH.cons (o := { dst := some 18, op := Go.Op.call { callee := Go.Callee.value (Go.Operand.func 43), args := #[Go.Operand.tmp 17], argTypes := #[43] }, type := 43, pos := "commit.go:26", after := #[{ on := 5, ground := Go.Ground.data }], guard := none }) rfl (fun K hK => ?_) ?_
    · go_simp
      refine (HC w2.drew (isUs_same HU2.out fun _ _ _ => rfl)).out.mono ?_
      rintro e w3 ⟨rfl, hrw, hb3'⟩
      have hb3 : Below w2.heap.size w2 w3 := ⟨hb3'.os, hb3'.tape, hb3'.output, hb3'.size, hb3'.block⟩
      obtain ⟨a', c', w5, hrun, HROW, HGR, HOWN, e5, g5, e3, e4, HKP⟩ := com_app HJ.out HA2.out hb3 ⟨((on : Nat) : Int), n, some ⟨w2.heap.size + 2, 0, none⟩, us.length, us.length, us⟩ (by decide) hn 57 66 HP.out.2.2.1
      obtain ⟨y3, y4, y5, y6⟩ := HKP.out _ _ _ _ _ _ (.slice a' (rs.length + 1) c') (Nat.le_refl w.heap.size) HR2.out
      have z3 : w3.cell? ⟨w.heap.size, 0, none⟩ = some (.int .i64 ((on : Nat) : Int)) ∧ w3.cell? ⟨w.heap.size, 1, none⟩ = some (.int .i64 n) ∧ w3.cell? ⟨w.heap.size, 2, none⟩ = some (.slice a us.length cap) := ⟨y3.c0, y3.c1, y3.c2⟩
      have z4 : (w3.alloc (.cells #[.int .i64 ((on : Nat) : Int), .int .i64 n, .slice (some ⟨w2.heap.size + 2, 0, none⟩) us.length us.length] 43)).cell? ⟨w.heap.size, 0, none⟩ = some (.int .i64 ((on : Nat) : Int)) ∧ (w3.alloc (.cells #[.int .i64 ((on : Nat) : Int), .int .i64 n, .slice (some ⟨w2.heap.size + 2, 0, none⟩) us.length us.length] 43)).cell? ⟨w.heap.size, 1, none⟩ = some (.int .i64 n) ∧ (w3.alloc (.cells #[.int .i64 ((on : Nat) : Int), .int .i64 n, .slice (some ⟨w2.heap.size + 2, 0, none⟩) us.length us.length] 43)).cell? ⟨w.heap.size, 2, none⟩ = some (.slice a us.length cap) := ⟨y4.c0, y4.c1, y4.c2⟩
      have z5 : w5.cell? ⟨w.heap.size, 0, none⟩ = some (.int .i64 ((on : Nat) : Int)) ∧ w5.cell? ⟨w.heap.size, 1, none⟩ = some (.int .i64 n) ∧ w5.cell? ⟨w.heap.size, 2, none⟩ = some (.slice a us.length cap) := ⟨y5.c0, y5.c1, y5.c2⟩
      have z6 : (w5.setCell ⟨b, 66, none⟩ (.slice a' (rs.length + 1) c')).cell? ⟨w.heap.size, 0, none⟩ = some (.int .i64 ((on : Nat) : Int)) ∧ (w5.setCell ⟨b, 66, none⟩ (.slice a' (rs.length + 1) c')).cell? ⟨w.heap.size, 1, none⟩ = some (.int .i64 n) ∧ (w5.setCell ⟨b, 66, none⟩ (.slice a' (rs.length + 1) c')).cell? ⟨w.heap.size, 2, none⟩ = some (.slice a us.length cap) := ⟨y6.c0, y6.c1, y6.c2⟩
      have HRW : Hid (Rw w3 (w2.heap.size + 2) us) := Lib.hid hrw
      have HB3 := Lib.hid hb3
      have HY := Lib.hid y6
      clear hb3 hb3' hrw y3 y4 y5 y6
      go_wp2_with fail
      refine hK.out _ _ ?_ (fun hH => ?_)
      · exact z3
      clear hK K
      try simp only [Act.put, List.setIfInBounds_toArray, List.set_cons_zero, List.set_cons_succ]
      refine wpAnyH_ready (rs := [7]) (by kernel_rfl) (by simp) ?_
      refine AllReadyH.cons (o := { dst := some 19, op := Go.Op.buildSlice 57 1 #[(0, Go.Operand.tmp 18)], type := 57, pos := "commit.go:26", after := #[{ on := 6, ground := Go.Ground.data }], guard := none }) rfl (fun K hK => ?_) ?_
      · go_simp
        refine hK.out _ _ ?_ (fun hH => ?_)
        · exact z4
        clear hK K
        try simp only [Act.put, List.setIfInBounds_toArray, List.set_cons_zero, List.set_cons_succ]
        refine wpAnyH_ready (rs := [8]) (by kernel_rfl) (by simp) ?_
        refine AllReadyH.cons (o := { dst := some 20, op := Go.Op.call { callee := Go.Callee.builtin Go.Builtin.append, args := #[Go.Operand.tmp 16, Go.Operand.tmp 19], argTypes := #[57, 57] }, type := 57, pos := "commit.go:26", after := #[{ on := 4, ground := Go.Ground.data }, { on := 7, ground := Go.Ground.data }, { on := 6, ground := Go.Ground.chain }], guard := none }) rfl (fun K hK => ?_) ?_
        · refine step_append_run (by rfl) (.tmp 16) (.tmp 19) 57 rfl _ _ _ rfl rfl hrun ?_
          refine hK.out _ _ ?_ (fun hH => ?_)
          · exact z5
          clear hK K
          try simp only [Act.put, List.setIfInBounds_toArray, List.set_cons_zero, List.set_cons_succ]
          refine wpAnyH_take (i := 9) (oi := { dst := some 21, op := Go.Op.nilCheck (Go.Operand.tmp 12), type := 0, pos := "commit.go:26", after := #[{ on := 0, ground := Go.Ground.data }, { on := 0, ground := Go.Ground.phase }, { on := 1, ground := Go.Ground.phase }, { on := 2, ground := Go.Ground.phase }, { on := 3, ground := Go.Ground.phase }, { on := 4, ground := Go.Ground.phase }, { on := 5, ground := Go.Ground.phase }, { on := 6, ground := Go.Ground.phase }, { on := 7, ground := Go.Ground.phase }, { on := 8, ground := Go.Ground.phase }], guard := none }) (v := ?_) rfl (by kernel_rfl) (by kernel_rfl) (by kernel_rfl) (fun _ _ _ h => h) (Or.inl ⟨by rfl, ?_⟩) (by assumption) ?_
          rotate_left
          · intro w hSw
            try dsimp only at hSw
            obtain ⟨q0, q1, q2⟩ := hSw
            go_simp
            all_goals with_reducible rfl
          try simp only [Act.put, List.setIfInBounds_toArray, List.set_cons_zero, List.set_cons_succ]
          refine wpAnyH_take (i := 10) (oi := { dst := some 22, op := Go.Op.fieldAddr 69 (Go.Operand.tmp 21) 2, type := 0, pos := "commit.go:26", after := #[{ on := 9, ground := Go.Ground.data }, { on := 0, ground := Go.Ground.phase }, { on := 1, ground := Go.Ground.phase }, { on := 2, ground := Go.Ground.phase }, { on := 3, ground := Go.Ground.phase }, { on := 4, ground := Go.Ground.phase }, { on := 5, ground := Go.Ground.phase }, { on := 6, ground := Go.Ground.phase }, { on := 7, ground := Go.Ground.phase }, { on := 8, ground := Go.Ground.phase }], guard := none }) (v := ?_) rfl (by kernel_rfl) (by kernel_rfl) (by kernel_rfl) (fun _ _ _ h => h) (Or.inl ⟨by rfl, ?_⟩) (by assumption) ?_
          rotate_left
          · intro w hSw
            try dsimp only at hSw
            obtain ⟨q0, q1, q2⟩ := hSw
            go_simp
            all_goals with_reducible rfl
          try simp only [Act.put, List.setIfInBounds_toArray, List.set_cons_zero, List.set_cons_succ]
          refine wpAnyH_ready (rs := [11]) (by kernel_rfl) (by simp) ?_
          refine AllReadyH.cons (o := { dst := none, op := Go.Op.store 57 (Go.Operand.tmp 22) (Go.Operand.tmp 20), type := 0, pos := "commit.go:26", after := #[{ on := 10, ground := Go.Ground.data }, { on := 8, ground := Go.Ground.data }, { on := 8, ground := Go.Ground.chain }, { on := 0, ground := Go.Ground.phase }, { on := 1, ground := Go.Ground.phase }, { on := 2, ground := Go.Ground.phase }, { on := 3, ground := Go.Ground.phase }, { on := 4, ground := Go.Ground.phase }, { on := 5, ground := Go.Ground.phase }, { on := 6, ground := Go.Ground.phase }, { on := 7, ground := Go.Ground.phase }, { on := 8, ground := Go.Ground.phase }], guard := none }) rfl (fun K hK => ?_) ?_
          · go_simp
            refine hK.out _ _ ?_ (fun hH => ?_)
            · exact z6
            clear hK K
            try simp only [Act.put, List.setIfInBounds_toArray, List.set_cons_zero, List.set_cons_succ]
            refine wpAnyH_done (by kernel_rfl) ?_ _
            have hne : w.heap.size ≠ b := HNE.out
            have hy7 := HY.out.setnew hne (1 + on) (.int .i64 n)
            have z7 : ((w5.setCell ⟨b, 66, none⟩ (.slice a' (rs.length + 1) c')).setCell ⟨b, 1 + on, none⟩ (.int .i64 n)).cell? ⟨w.heap.size, 0, none⟩ = some (.int .i64 ((on : Nat) : Int)) ∧ ((w5.setCell ⟨b, 66, none⟩ (.slice a' (rs.length + 1) c')).setCell ⟨b, 1 + on, none⟩ (.int .i64 n)).cell? ⟨w.heap.size, 1, none⟩ = some (.int .i64 n) ∧ ((w5.setCell ⟨b, 66, none⟩ (.slice a' (rs.length + 1) c')).setCell ⟨b, 1 + on, none⟩ (.int .i64 n)).cell? ⟨w.heap.size, 2, none⟩ = some (.slice a us.length cap) := ⟨hy7.c0, hy7.c1, hy7.c2⟩
            have d0 := z6.1
            have d1 := z6.2.1
            obtain ⟨F', x1, x2, x3⟩ := com_done HJ.out HP.out HE.out HS.out HG.out HC1.out.1 HC1.out.2 HSM.out HCE.out HA2.out HB3.out HRW.out HROW.out HGR.out HOWN.out rfl
            have hf6 : (w5.setCell ⟨b, 66, none⟩ (.slice a' (rs.length + 1) c')).frozen? ⟨b, 1 + on, none⟩ = false := by
              have := (com_fin (HJ.out.next HA2.out) HB3.out (r := ⟨((on : Nat) : Int), n, some ⟨w2.heap.size + 2, 0, none⟩, us.length, us.length, us⟩) ⟨HRW.out.is, Nat.le_refl _, fun e => by cases e⟩ rfl (by have := HJ.out.lo; have := HJ.out.lt; have := HA2.out.size; omega) ⟨_, HRW.out⟩ (by decide) (by decide) _ 66 HROW.out HGR.out).f0 (1 + on)
              exact this
            have hc5 := com_cell (HJ.out.next HA2.out) HB3.out (by decide) HGR.out (1 + on) _ (HP.out.2.2.2 on HON.out.1 HON.out.2)
            have HX := Lib.hid (And.intro x1 (And.intro x2 x3))
            clear z3 z4 z5 e3 e4 e5 g5 hrun HKP HY HR2 x1 x2 x3 hy7 hne
            go_wp2_with fail
            refine wp_region_held_drew (S := fun w' => w'.cell? ⟨w.heap.size, 0, none⟩ = some (.int .i64 ((on : Nat) : Int)) ∧ w'.cell? ⟨w.heap.size, 1, none⟩ = some (.int .i64 n) ∧ w'.cell? ⟨w.heap.size, 2, none⟩ = some (.slice a us.length cap)) (by kernel_rfl) ?_ (fun hH => ?_)
            · exact z6
            refine wpAnyH_take (i := 0) (oi := { dst := some 23, op := Go.Op.move (Go.Operand.tmp 0), type := 24, pos := "commit.go:27", after := #[], guard := none }) (v := ?_) rfl (by kernel_rfl) (by kernel_rfl) (by kernel_rfl) (fun _ _ _ h => h) (Or.inl ⟨by rfl, ?_⟩) (by assumption) ?_
            rotate_left
            · intro w hSw
              try dsimp only at hSw
              obtain ⟨q0, q1, q2⟩ := hSw
              go_simp
              all_goals with_reducible rfl
            try simp only [Act.put, List.setIfInBounds_toArray, List.set_cons_zero, List.set_cons_succ]
            refine wpAnyH_take (i := 1) (oi := { dst := some 24, op := Go.Op.fieldAddr 43 (Go.Operand.tmp 3) 0, type := 0, pos := "commit.go:27", after := #[], guard := none }) (v := ?_) rfl (by kernel_rfl) (by kernel_rfl) (by kernel_rfl) (fun _ _ _ h => h) (Or.inl ⟨by rfl, ?_⟩) (by assumption) ?_
            rotate_left
            · intro w hSw
              try dsimp only at hSw
              obtain ⟨q0, q1, q2⟩ := hSw
              go_simp
              all_goals with_reducible rfl
            try simp only [Act.put, List.setIfInBounds_toArray, List.set_cons_zero, List.set_cons_succ]
            refine wpAnyH_take (i := 2) (oi := { dst := some 25, op := Go.Op.load 3 (Go.Operand.tmp 24), type := 3, pos := "commit.go:27", after := #[{ on := 1, ground := Go.Ground.data }], guard := none }) (v := ?_) rfl (by kernel_rfl) (by kernel_rfl) (by kernel_rfl) (fun _ _ _ h => h) (Or.inl ⟨by rfl, ?_⟩) (by assumption) ?_
            rotate_left
            · intro w hSw
              try dsimp only at hSw
              obtain ⟨q0, q1, q2⟩ := hSw
              go_simp
              all_goals with_reducible rfl
            try simp only [Act.put, List.setIfInBounds_toArray, List.set_cons_zero, List.set_cons_succ]
            refine wpAnyH_take (i := 3) (oi := { dst := some 26, op := Go.Op.fieldAddr 43 (Go.Operand.tmp 3) 1, type := 0, pos := "commit.go:27", after := #[], guard := none }) (v := ?_) rfl (by kernel_rfl) (by kernel_rfl) (by kernel_rfl) (fun _ _ _ h => h) (Or.inl ⟨by rfl, ?_⟩) (by assumption) ?_
            rotate_left
            · intro w hSw
              try dsimp only at hSw
              obtain ⟨q0, q1, q2⟩ := hSw
              go_simp
              all_goals with_reducible rfl
            try simp only [Act.put, List.setIfInBounds_toArray, List.set_cons_zero, List.set_cons_succ]
            refine wpAnyH_take (i := 4) (oi := { dst := some 27, op := Go.Op.load 3 (Go.Operand.tmp 26), type := 3, pos := "commit.go:27", after := #[{ on := 3, ground := Go.Ground.data }], guard := none }) (v := ?_) rfl (by kernel_rfl) (by kernel_rfl) (by kernel_rfl) (fun _ _ _ h => h) (Or.inl ⟨by rfl, ?_⟩) (by assumption) ?_
            rotate_left
            · intro w hSw
              try dsimp only at hSw
              obtain ⟨q0, q1, q2⟩ := hSw
              go_simp
              all_goals with_reducible rfl
            try simp only [Act.put, List.setIfInBounds_toArray, List.set_cons_zero, List.set_cons_succ]
            refine wpAnyH_take (i := 5) (oi := { dst := some 28, op := Go.Op.nilCheck (Go.Operand.tmp 23), type := 0, pos := "commit.go:27", after := #[{ on := 0, ground := Go.Ground.data }], guard := none }) (v := ?_) rfl (by kernel_rfl) (by kernel_rfl) (by kernel_rfl) (fun _ _ _ h => h) (Or.inl ⟨by rfl, ?_⟩) (by assumption) ?_
            rotate_left
            · intro w hSw
              try dsimp only at hSw
              obtain ⟨q0, q1, q2⟩ := hSw
              go_simp
              all_goals with_reducible rfl
            try simp only [Act.put, List.setIfInBounds_toArray, List.set_cons_zero, List.set_cons_succ]
            refine wpAnyH_take (i := 6) (oi := { dst := some 29, op := Go.Op.fieldAddr 69 (Go.Operand.tmp 28) 1, type := 0, pos := "commit.go:27", after := #[{ on := 5, ground := Go.Ground.data }], guard := none }) (v := ?_) rfl (by kernel_rfl) (by kernel_rfl) (by kernel_rfl) (fun _ _ _ h => h) (Or.inl ⟨by rfl, ?_⟩) (by assumption) ?_
            rotate_left
            · intro w hSw
              try dsimp only at hSw
              obtain ⟨q0, q1, q2⟩ := hSw
              go_simp
              all_goals with_reducible rfl
            try simp only [Act.put, List.setIfInBounds_toArray, List.set_cons_zero, List.set_cons_succ]
            refine wpAnyH_take (i := 7) (oi := { dst := some 30, op := Go.Op.indexAddr 67 (Go.Operand.tmp 29) (Go.Operand.tmp 25), type := 0, pos := "commit.go:27", after := #[{ on := 6, ground := Go.Ground.data }, { on := 2, ground := Go.Ground.data }, { on := 0, ground := Go.Ground.phase }, { on := 1, ground := Go.Ground.phase }, { on := 2, ground := Go.Ground.phase }, { on := 3, ground := Go.Ground.phase }, { on := 4, ground := Go.Ground.phase }], guard := none }) (v := ?_) rfl (by kernel_rfl) (by kernel_rfl) (by kernel_rfl) (fun _ _ _ h => h) (Or.inl ⟨by rfl, ?_⟩) (by assumption) ?_
            rotate_left
            · intro w hSw
              try dsimp only at hSw
              obtain ⟨q0, q1, q2⟩ := hSw
              go_simp
              all_goals with_reducible rfl
            try simp only [Act.put, List.setIfInBounds_toArray, List.set_cons_zero, List.set_cons_succ]
            refine wpAnyH_ready (rs := [8]) (by kernel_rfl) (by simp) ?_
            refine AllReadyH.cons (o := { dst := none, op := Go.Op.store 3 (Go.Operand.tmp 30) (Go.Operand.tmp 27), type := 0, pos := "commit.go:27", after := #[{ on := 7, ground := Go.Ground.data }, { on := 4, ground := Go.Ground.data }, { on := 0, ground := Go.Ground.phase }, { on := 1, ground := Go.Ground.phase }, { on := 2, ground := Go.Ground.phase }, { on := 3, ground := Go.Ground.phase }, { on := 4, ground := Go.Ground.phase }], guard := none }) rfl (fun K hK => ?_) ?_
            · go_simp
              refine hK.out _ _ ?_ (fun hH => ?_)
              · exact z7
              clear hK K
              try simp only [Act.put, List.setIfInBounds_toArray, List.set_cons_zero, List.set_cons_succ]
              refine wpAnyH_done (by kernel_rfl) ?_ _
              clear d0 d1 z6 z7 hf6 hc5
              go_wp2
              go_ret
              exact ⟨rfl, F', HX.out.1.asit rfl, ⟨HX.out.2.1.os, HX.out.2.1.tape, HX.out.2.1.output, HX.out.2.1.size, HX.out.2.1.block⟩, HX.out.2.2⟩
            exact AllReadyH.nil
          exact AllReadyH.nil
        exact AllReadyH.nil
      exact AllReadyH.nil
    exact AllReadyH.nil
  refine AllReadyH.cons (o := { dst := some 18, op := Go.Op.call { callee := Go.Callee.value (Go.Operand.func 43), args := #[Go.Operand.tmp 17], argTypes := #[43] }, type := 43, pos := "commit.go:26", after := #[{ on := 5, ground := Go.Ground.data }], guard := none }) rfl (fun K hK => ?_) ?_
  · go_simp
    refine (HC w2.drew (isUs_same HU2.out fun _ _ _ => rfl)).out.mono ?_
    rintro e w3 ⟨rfl, hrw, hb3'⟩
    have hb3 : Below w2.heap.size w2 w3 := ⟨hb3'.os, hb3'.tape, hb3'.output, hb3'.size, hb3'.block⟩
    obtain ⟨a', c', w5, hrun, HROW, HGR, HOWN, e5, g5, e3, e4, HKP⟩ := com_app HJ.out HA2.out hb3 ⟨((on : Nat) : Int), n, some ⟨w2.heap.size + 2, 0, none⟩, us.length, us.length, us⟩ (by decide) hn 57 66 HP.out.2.2.1
    obtain ⟨y3, y4, y5, y6⟩ := HKP.out _ _ _ _ _ _ (.slice a' (rs.length + 1) c') (Nat.le_refl w.heap.size) HR2.out
    have z3 : w3.cell? ⟨w.heap.size, 0, none⟩ = some (.int .i64 ((on : Nat) : Int)) ∧ w3.cell? ⟨w.heap.size, 1, none⟩ = some (.int .i64 n) ∧ w3.cell? ⟨w.heap.size, 2, none⟩ = some (.slice a us.length cap) := ⟨y3.c0, y3.c1, y3.c2⟩
    have z4 : (w3.alloc (.cells #[.int .i64 ((on : Nat) : Int), .int .i64 n, .slice (some ⟨w2.heap.size + 2, 0, none⟩) us.length us.length] 43)).cell? ⟨w.heap.size, 0, none⟩ = some (.int .i64 ((on : Nat) : Int)) ∧ (w3.alloc (.cells #[.int .i64 ((on : Nat) : Int), .int .i64 n, .slice (some ⟨w2.heap.size + 2, 0, none⟩) us.length us.length] 43)).cell? ⟨w.heap.size, 1, none⟩ = some (.int .i64 n) ∧ (w3.alloc (.cells #[.int .i64 ((on : Nat) : Int), .int .i64 n, .slice (some ⟨w2.heap.size + 2, 0, none⟩) us.length us.length] 43)).cell? ⟨w.heap.size, 2, none⟩ = some (.slice a us.length cap) := ⟨y4.c0, y4.c1, y4.c2⟩
    have z5 : w5.cell? ⟨w.heap.size, 0, none⟩ = some (.int .i64 ((on : Nat) : Int)) ∧ w5.cell? ⟨w.heap.size, 1, none⟩ = some (.int .i64 n) ∧ w5.cell? ⟨w.heap.size, 2, none⟩ = some (.slice a us.length cap) := ⟨y5.c0, y5.c1, y5.c2⟩
    have z6 : (w5.setCell ⟨b, 66, none⟩ (.slice a' (rs.length + 1) c')).cell? ⟨w.heap.size, 0, none⟩ = some (.int .i64 ((on : Nat) : Int)) ∧ (w5.setCell ⟨b, 66, none⟩ (.slice a' (rs.length + 1) c')).cell? ⟨w.heap.size, 1, none⟩ = some (.int .i64 n) ∧ (w5.setCell ⟨b, 66, none⟩ (.slice a' (rs.length + 1) c')).cell? ⟨w.heap.size, 2, none⟩ = some (.slice a us.length cap) := ⟨y6.c0, y6.c1, y6.c2⟩
    have HRW : Hid (Rw w3 (w2.heap.size + 2) us) := Lib.hid hrw
    have HB3 := Lib.hid hb3
    have HY := Lib.hid y6
    clear hb3 hb3' hrw y3 y4 y5 y6
    go_wp2_with fail
    refine hK.out _ _ ?_ (fun hH => ?_)
    · exact z3
    clear hK K
    try simp only [Act.put, List.setIfInBounds_toArray, List.set_cons_zero, List.set_cons_succ]
    refine wpAnyH_ready (rs := [4, 7]) (by kernel_rfl) (by simp) ?_
    refine AllReadyH.cons (o := { dst := some 16, op := Go.Op.load 57 (Go.Operand.tmp 15), type := 57, pos := "commit.go:26", after := #[{ on := 3, ground := Go.Ground.data }], guard := none }) rfl (fun K hK => ?_) ?_
    · go_simp
      refine hK.out _ _ ?_ (fun hH => ?_)
      · exact z3
      clear hK K
      try simp only [Act.put, List.setIfInBounds_toArray, List.set_cons_zero, List.set_cons_succ]
      refine wpAnyH_ready (rs := [7]) (by kernel_rfl) (by simp) ?_
      refine AllReadyH.cons (o := { dst := some 19, op := Go.Op.buildSlice 57 1 #[(0, Go.Operand.tmp 18)], type := 57, pos := "commit.go:26", after := #[{ on := 6, ground := Go.Ground.data }], guard := none }) rfl (fun K hK => ?_) ?_
      · go_simp
        refine hK.out _ _ ?_ (fun hH => ?_)
        · exact z4
        clear hK K
        try simp only [Act.put, List.setIfInBounds_toArray, List.set_cons_zero, List.set_cons_succ]
        refine wpAnyH_ready (rs := [8]) (by kernel_rfl) (by simp) ?_
        refine AllReadyH.cons (o := { dst := some 20, op := Go.Op.call { callee := Go.Callee.builtin Go.Builtin.append, args := #[Go.Operand.tmp 16, Go.Operand.tmp 19], argTypes := #[57, 57] }, type := 57, pos := "commit.go:26", after := #[{ on := 4, ground := Go.Ground.data }, { on := 7, ground := Go.Ground.data }, { on := 6, ground := Go.Ground.chain }], guard := none }) rfl (fun K hK => ?_) ?_
        · refine step_append_run (by rfl) (.tmp 16) (.tmp 19) 57 rfl _ _ _ rfl rfl hrun ?_
          refine hK.out _ _ ?_ (fun hH => ?_)
          · exact z5
          clear hK K
          try simp only [Act.put, List.setIfInBounds_toArray, List.set_cons_zero, List.set_cons_succ]
          refine wpAnyH_take (i := 9) (oi := { dst := some 21, op := Go.Op.nilCheck (Go.Operand.tmp 12), type := 0, pos := "commit.go:26", after := #[{ on := 0, ground := Go.Ground.data }, { on := 0, ground := Go.Ground.phase }, { on := 1, ground := Go.Ground.phase }, { on := 2, ground := Go.Ground.phase }, { on := 3, ground := Go.Ground.phase }, { on := 4, ground := Go.Ground.phase }, { on := 5, ground := Go.Ground.phase }, { on := 6, ground := Go.Ground.phase }, { on := 7, ground := Go.Ground.phase }, { on := 8, ground := Go.Ground.phase }], guard := none }) (v := ?_) rfl (by kernel_rfl) (by kernel_rfl) (by kernel_rfl) (fun _ _ _ h => h) (Or.inl ⟨by rfl, ?_⟩) (by assumption) ?_
          rotate_left
          · intro w hSw
            try dsimp only at hSw
            obtain ⟨q0, q1, q2⟩ := hSw
            go_simp
            all_goals with_reducible rfl
          try simp only [Act.put, List.setIfInBounds_toArray, List.set_cons_zero, List.set_cons_succ]
          refine wpAnyH_take (i := 10) (oi := { dst := some 22, op := Go.Op.fieldAddr 69 (Go.Operand.tmp 21) 2, type := 0, pos := "commit.go:26", after := #[{ on := 9, ground := Go.Ground.data }, { on := 0, ground := Go.Ground.phase }, { on := 1, ground := Go.Ground.phase }, { on := 2, ground := Go.Ground.phase }, { on := 3, ground := Go.Ground.phase }, { on := 4, ground := Go.Ground.phase }, { on := 5, ground := Go.Ground.phase }, { on := 6, ground := Go.Ground.phase }, { on := 7, ground := Go.Ground.phase }, { on := 8, ground := Go.Ground.phase }], guard := none }) (v := ?_) rfl (by kernel_rfl) (by kernel_rfl) (by kernel_rfl) (fun _ _ _ h => h) (Or.inl ⟨by rfl, ?_⟩) (by assumption) ?_
          rotate_left
          · intro w hSw
            try dsimp only at hSw
            obtain ⟨q0, q1, q2⟩ := hSw
            go_simp
            all_goals with_reducible rfl
          try simp only [Act.put, List.setIfInBounds_toArray, List.set_cons_zero, List.set_cons_succ]
          refine wpAnyH_ready (rs := [11]) (by kernel_rfl) (by simp) ?_
          refine AllReadyH.cons (o := { dst := none, op := Go.Op.store 57 (Go.Operand.tmp 22) (Go.Operand.tmp 20), type := 0, pos := "commit.go:26", after := #[{ on := 10, ground := Go.Ground.data }, { on := 8, ground := Go.Ground.data }, { on := 8, ground := Go.Ground.chain }, { on := 0, ground := Go.Ground.phase }, { on := 1, ground := Go.Ground.phase }, { on := 2, ground := Go.Ground.phase }, { on := 3, ground := Go.Ground.phase }, { on := 4, ground := Go.Ground.phase }, { on := 5, ground := Go.Ground.phase }, { on := 6, ground := Go.Ground.phase }, { on := 7, ground := Go.Ground.phase }, { on := 8, ground := Go.Ground.phase }], guard := none }) rfl (fun K hK => ?_) ?_
          · go_simp
            refine hK.out _ _ ?_ (fun hH => ?_)
            · exact z6
            clear hK K
            try simp only [Act.put, List.setIfInBounds_toArray, List.set_cons_zero, List.set_cons_succ]
            refine wpAnyH_done (by kernel_rfl) ?_ _
            have hne : w.heap.size ≠ b := HNE.out
            have hy7 := HY.out.setnew hne (1 + on) (.int .i64 n)
            have z7 : ((w5.setCell ⟨b, 66, none⟩ (.slice a' (rs.length + 1) c')).setCell ⟨b, 1 + on, none⟩ (.int .i64 n)).cell? ⟨w.heap.size, 0, none⟩ = some (.int .i64 ((on : Nat) : Int)) ∧ ((w5.setCell ⟨b, 66, none⟩ (.slice a' (rs.length + 1) c')).setCell ⟨b, 1 + on, none⟩ (.int .i64 n)).cell? ⟨w.heap.size, 1, none⟩ = some (.int .i64 n) ∧ ((w5.setCell ⟨b, 66, none⟩ (.slice a' (rs.length + 1) c')).setCell ⟨b, 1 + on, none⟩ (.int .i64 n)).cell? ⟨w.heap.size, 2, none⟩ = some (.slice a us.length cap) := ⟨hy7.c0, hy7.c1, hy7.c2⟩
            have d0 := z6.1
            have d1 := z6.2.1
            obtain ⟨F', x1, x2, x3⟩ := com_done HJ.out HP.out HE.out HS.out HG.out HC1.out.1 HC1.out.2 HSM.out HCE.out HA2.out HB3.out HRW.out HROW.out HGR.out HOWN.out rfl
            have hf6 : (w5.setCell ⟨b, 66, none⟩ (.slice a' (rs.length + 1) c')).frozen? ⟨b, 1 + on, none⟩ = false := by
              have := (com_fin (HJ.out.next HA2.out) HB3.out (r := ⟨((on : Nat) : Int), n, some ⟨w2.heap.size + 2, 0, none⟩, us.length, us.length, us⟩) ⟨HRW.out.is, Nat.le_refl _, fun e => by cases e⟩ rfl (by have := HJ.out.lo; have := HJ.out.lt; have := HA2.out.size; omega) ⟨_, HRW.out⟩ (by decide) (by decide) _ 66 HROW.out HGR.out).f0 (1 + on)
              exact this
            have hc5 := com_cell (HJ.out.next HA2.out) HB3.out (by decide) HGR.out (1 + on) _ (HP.out.2.2.2 on HON.out.1 HON.out.2)
            have HX := Lib.hid (And.intro x1 (And.intro x2 x3))
            clear z3 z4 z5 e3 e4 e5 g5 hrun HKP HY HR2 x1 x2 x3 hy7 hne
            go_wp2_with fail
            refine wp_region_held_drew (S := fun w' => w'.cell? ⟨w.heap.size, 0, none⟩ = some (.int .i64 ((on : Nat) : Int)) ∧ w'.cell? ⟨w.heap.size, 1, none⟩ = some (.int .i64 n) ∧ w'.cell? ⟨w.heap.size, 2, none⟩ = some (.slice a us.length cap)) (by kernel_rfl) ?_ (fun hH => ?_)
            · exact z6
            refine wpAnyH_take (i := 0) (oi := { dst := some 23, op := Go.Op.move (Go.Operand.tmp 0), type := 24, pos := "commit.go:27", after := #[], guard := none }) (v := ?_) rfl (by kernel_rfl) (by kernel_rfl) (by kernel_rfl) (fun _ _ _ h => h) (Or.inl ⟨by rfl, ?_⟩) (by assumption) ?_
            rotate_left
            · intro w hSw
              try dsimp only at hSw
              obtain ⟨q0, q1, q2⟩ := hSw
              go_simp
              all_goals with_reducible rfl
            try simp only [Act.put, List.setIfInBounds_toArray, List.set_cons_zero, List.set_cons_succ]
            refine wpAnyH_take (i := 1) (oi := { dst := some 24, op := Go.Op.fieldAddr 43 (Go.Operand.tmp 3) 0, type := 0, pos := "commit.go:27", after := #[], guard := none }) (v := ?_) rfl (by kernel_rfl) (by kernel_rfl) (by kernel_rfl) (fun _ _ _ h => h) (Or.inl ⟨by rfl, ?_⟩) (by assumption) ?_
            rotate_left
            · intro w hSw
              try dsimp only at hSw
              obtain ⟨q0, q1, q2⟩ := hSw
              go_simp
              all_goals with_reducible rfl
            try simp only [Act.put, List.setIfInBounds_toArray, List.set_cons_zero, List.set_cons_succ]
            refine wpAnyH_take (i := 2) (oi := { dst := some 25, op := Go.Op.load 3 (Go.Operand.tmp 24), type := 3, pos := "commit.go:27", after := #[{ on := 1, ground := Go.Ground.data }], guard := none }) (v := ?_) rfl (by kernel_rfl) (by kernel_rfl) (by kernel_rfl) (fun _ _ _ h => h) (Or.inl ⟨by rfl, ?_⟩) (by assumption) ?_
            rotate_left
            · intro w hSw
              try dsimp only at hSw
              obtain ⟨q0, q1, q2⟩ := hSw
              go_simp
              all_goals with_reducible rfl
            try simp only [Act.put, List.setIfInBounds_toArray, List.set_cons_zero, List.set_cons_succ]
            refine wpAnyH_take (i := 3) (oi := { dst := some 26, op := Go.Op.fieldAddr 43 (Go.Operand.tmp 3) 1, type := 0, pos := "commit.go:27", after := #[], guard := none }) (v := ?_) rfl (by kernel_rfl) (by kernel_rfl) (by kernel_rfl) (fun _ _ _ h => h) (Or.inl ⟨by rfl, ?_⟩) (by assumption) ?_
            rotate_left
            · intro w hSw
              try dsimp only at hSw
              obtain ⟨q0, q1, q2⟩ := hSw
              go_simp
              all_goals with_reducible rfl
            try simp only [Act.put, List.setIfInBounds_toArray, List.set_cons_zero, List.set_cons_succ]
            refine wpAnyH_take (i := 4) (oi := { dst := some 27, op := Go.Op.load 3 (Go.Operand.tmp 26), type := 3, pos := "commit.go:27", after := #[{ on := 3, ground := Go.Ground.data }], guard := none }) (v := ?_) rfl (by kernel_rfl) (by kernel_rfl) (by kernel_rfl) (fun _ _ _ h => h) (Or.inl ⟨by rfl, ?_⟩) (by assumption) ?_
            rotate_left
            · intro w hSw
              try dsimp only at hSw
              obtain ⟨q0, q1, q2⟩ := hSw
              go_simp
              all_goals with_reducible rfl
            try simp only [Act.put, List.setIfInBounds_toArray, List.set_cons_zero, List.set_cons_succ]
            refine wpAnyH_take (i := 5) (oi := { dst := some 28, op := Go.Op.nilCheck (Go.Operand.tmp 23), type := 0, pos := "commit.go:27", after := #[{ on := 0, ground := Go.Ground.data }], guard := none }) (v := ?_) rfl (by kernel_rfl) (by kernel_rfl) (by kernel_rfl) (fun _ _ _ h => h) (Or.inl ⟨by rfl, ?_⟩) (by assumption) ?_
            rotate_left
            · intro w hSw
              try dsimp only at hSw
              obtain ⟨q0, q1, q2⟩ := hSw
              go_simp
              all_goals with_reducible rfl
            try simp only [Act.put, List.setIfInBounds_toArray, List.set_cons_zero, List.set_cons_succ]
            refine wpAnyH_take (i := 6) (oi := { dst := some 29, op := Go.Op.fieldAddr 69 (Go.Operand.tmp 28) 1, type := 0, pos := "commit.go:27", after := #[{ on := 5, ground := Go.Ground.data }], guard := none }) (v := ?_) rfl (by kernel_rfl) (by kernel_rfl) (by kernel_rfl) (fun _ _ _ h => h) (Or.inl ⟨by rfl, ?_⟩) (by assumption) ?_
            rotate_left
            · intro w hSw
              try dsimp only at hSw
              obtain ⟨q0, q1, q2⟩ := hSw
              go_simp
              all_goals with_reducible rfl
            try simp only [Act.put, List.setIfInBounds_toArray, List.set_cons_zero, List.set_cons_succ]
            refine wpAnyH_take (i := 7) (oi := { dst := some 30, op := Go.Op.indexAddr 67 (Go.Operand.tmp 29) (Go.Operand.tmp 25), type := 0, pos := "commit.go:27", after := #[{ on := 6, ground := Go.Ground.data }, { on := 2, ground := Go.Ground.data }, { on := 0, ground := Go.Ground.phase }, { on := 1, ground := Go.Ground.phase }, { on := 2, ground := Go.Ground.phase }, { on := 3, ground := Go.Ground.phase }, { on := 4, ground := Go.Ground.phase }], guard := none }) (v := ?_) rfl (by kernel_rfl) (by kernel_rfl) (by kernel_rfl) (fun _ _ _ h => h) (Or.inl ⟨by rfl, ?_⟩) (by assumption) ?_
            rotate_left
            · intro w hSw
              try dsimp only at hSw
              obtain ⟨q0, q1, q2⟩ := hSw
              go_simp
              all_goals with_reducible rfl
            try simp only [Act.put, List.setIfInBounds_toArray, List.set_cons_zero, List.set_cons_succ]
            refine wpAnyH_ready (rs := [8]) (by kernel_rfl) (by simp) ?_
            refine AllReadyH.cons (o := { dst := none, op := Go.Op.store 3 (Go.Operand.tmp 30) (Go.Operand.tmp 27), type := 0, pos := "commit.go:27", after := #[{ on := 7, ground := Go.Ground.data }, { on := 4, ground := Go.Ground.data }, { on := 0, ground := Go.Ground.phase }, { on := 1, ground := Go.Ground.phase }, { on := 2, ground := Go.Ground.phase }, { on := 3, ground := Go.Ground.phase }, { on := 4, ground := Go.Ground.phase }], guard := none }) rfl (fun K hK => ?_) ?_
            · go_simp
              refine hK.out _ _ ?_ (fun hH => ?_)
              · exact z7
              clear hK K
              try simp only [Act.put, List.setIfInBounds_toArray, List.set_cons_zero, List.set_cons_succ]
              refine wpAnyH_done (by kernel_rfl) ?_ _
              clear d0 d1 z6 z7 hf6 hc5
              go_wp2
              go_ret
              exact ⟨rfl, F', HX.out.1.asit rfl, ⟨HX.out.2.1.os, HX.out.2.1.tape, HX.out.2.1.output, HX.out.2.1.size, HX.out.2.1.block⟩, HX.out.2.2⟩
            exact AllReadyH.nil
          exact AllReadyH.nil
        exact AllReadyH.nil
      exact AllReadyH.nil
    refine AllReadyH.cons (o := { dst := some 19, op := Go.Op.buildSlice 57 1 #[(0, Go.Operand.tmp 18)], type := 57, pos := "commit.go:26", after := #[{ on := 6, ground := Go.Ground.data }], guard := none }) rfl (fun K hK => ?_) ?_
    · go_simp
      refine hK.out _ _ ?_ (fun hH => ?_)
      · exact z4
      clear hK K
      try simp only [Act.put, List.setIfInBounds_toArray, List.set_cons_zero, List.set_cons_succ]
      refine wpAnyH_ready (rs := [4]) (by kernel_rfl) (by simp) ?_
      refine AllReadyH.cons (o := { dst := some 16, op := Go.Op.load 57 (Go.Operand.tmp 15), type := 57, pos := "commit.go:26", after := #[{ on := 3, ground := Go.Ground.data }], guard := none }) rfl (fun K hK => ?_) ?_
      · go_simp
        refine hK.out _ _ ?_ (fun hH => ?_)
        · exact z4
        clear hK K
        try simp only [Act.put, List.setIfInBounds_toArray, List.set_cons_zero, List.set_cons_succ]
        refine wpAnyH_ready (rs := [8]) (by kernel_rfl) (by simp) ?_
        refine AllReadyH.cons (o := { dst := some 20, op := Go.Op.call { callee := Go.Callee.builtin Go.Builtin.append, args := #[Go.Operand.tmp 16, Go.Operand.tmp 19], argTypes := #[57, 57] }, type := 57, pos := "commit.go:26", after := #[{ on := 4, ground := Go.Ground.data }, { on := 7, ground := Go.Ground.data }, { on := 6, ground := Go.Ground.chain }], guard := none }) rfl (fun K hK => ?_) ?_
        · refine step_append_run (by rfl) (.tmp 16) (.tmp 19) 57 rfl _ _ _ rfl rfl hrun ?_
          refine hK.out _ _ ?_ (fun hH => ?_)
          · exact z5
          clear hK K
          try simp only [Act.put, List.setIfInBounds_toArray, List.set_cons_zero, List.set_cons_succ]
          refine wpAnyH_take (i := 9) (oi := { dst := some 21, op := Go.Op.nilCheck (Go.Operand.tmp 12), type := 0, pos := "commit.go:26", after := #[{ on := 0, ground := Go.Ground.data }, { on := 0, ground := Go.Ground.phase }, { on := 1, ground := Go.Ground.phase }, { on := 2, ground := Go.Ground.phase }, { on := 3, ground := Go.Ground.phase }, { on := 4, ground := Go.Ground.phase }, { on := 5, ground := Go.Ground.phase }, { on := 6, ground := Go.Ground.phase }, { on := 7, ground := Go.Ground.phase }, { on := 8, ground := Go.Ground.phase }], guard := none }) (v := ?_) rfl (by kernel_rfl) (by kernel_rfl) (by kernel_rfl) (fun _ _ _ h => h) (Or.inl ⟨by rfl, ?_⟩) (by assumption) ?_
          rotate_left
          · intro w hSw
            try dsimp only at hSw
            obtain ⟨q0, q1, q2⟩ := hSw
            go_simp
            all_goals with_reducible rfl
          try simp only [Act.put, List.setIfInBounds_toArray, List.set_cons_zero, List.set_cons_succ]
          refine wpAnyH_take (i := 10) (oi := { dst := some 22, op := Go.Op.fieldAddr 69 (Go.Operand.tmp 21) 2, type := 0, pos := "commit.go:26", after := #[{ on := 9, ground := Go.Ground.data }, { on := 0, ground := Go.Ground.phase }, { on := 1, ground := Go.Ground.phase }, { on := 2, ground := Go.Ground.phase }, { on := 3, ground := Go.Ground.phase }, { on := 4, ground := Go.Ground.phase }, { on := 5, ground := Go.Ground.phase }, { on := 6, ground := Go.Ground.phase }, { on := 7, ground := Go.Ground.phase }, { on := 8, ground := Go.Ground.phase }], guard := none }) (v := ?_) rfl (by kernel_rfl) (by kernel_rfl) (by kernel_rfl) (fun _ _ _ h => h) (Or.inl ⟨by rfl, ?_⟩) (by assumption) ?_
          rotate_left
          · intro w hSw
            try dsimp only at hSw
            obtain ⟨q0, q1, q2⟩ := hSw
            go_simp
            all_goals with_reducible rfl
          try simp only [Act.put, List.setIfInBounds_toArray, List.set_cons_zero, List.set_cons_succ]
          refine wpAnyH_ready (rs := [11]) (by kernel_rfl) (by simp) ?_
          refine AllReadyH.cons (o := { dst := none, op := Go.Op.store 57 (Go.Operand.tmp 22) (Go.Operand.tmp 20), type := 0, pos := "commit.go:26", after := #[{ on := 10, ground := Go.Ground.data }, { on := 8, ground := Go.Ground.data }, { on := 8, ground := Go.Ground.chain }, { on := 0, ground := Go.Ground.phase }, { on := 1, ground := Go.Ground.phase }, { on := 2, ground := Go.Ground.phase }, { on := 3, ground := Go.Ground.phase }, { on := 4, ground := Go.Ground.phase }, { on := 5, ground := Go.Ground.phase }, { on := 6, ground := Go.Ground.phase }, { on := 7, ground := Go.Ground.phase }, { on := 8, ground := Go.Ground.phase }], guard := none }) rfl (fun K hK => ?_) ?_
          · go_simp
            refine hK.out _ _ ?_ (fun hH => ?_)
            · exact z6
            clear hK K
            try simp only [Act.put, List.setIfInBounds_toArray, List.set_cons_zero, List.set_cons_succ]
            refine wpAnyH_done (by kernel_rfl) ?_ _
            have hne : w.heap.size ≠ b := HNE.out
            have hy7 := HY.out.setnew hne (1 + on) (.int .i64 n)
            have z7 : ((w5.setCell ⟨b, 66, none⟩ (.slice a' (rs.length + 1) c')).setCell ⟨b, 1 + on, none⟩ (.int .i64 n)).cell? ⟨w.heap.size, 0, none⟩ = some (.int .i64 ((on : Nat) : Int)) ∧ ((w5.setCell ⟨b, 66, none⟩ (.slice a' (rs.length + 1) c')).setCell ⟨b, 1 + on, none⟩ (.int .i64 n)).cell? ⟨w.heap.size, 1, none⟩ = some (.int .i64 n) ∧ ((w5.setCell ⟨b, 66, none⟩ (.slice a' (rs.length + 1) c')).setCell ⟨b, 1 + on, none⟩ (.int .i64 n)).cell? ⟨w.heap.size, 2, none⟩ = some (.slice a us.length cap) := ⟨hy7.c0, hy7.c1, hy7.c2⟩
            have d0 := z6.1
            have d1 := z6.2.1
            obtain ⟨F', x1, x2, x3⟩ := com_done HJ.out HP.out HE.out HS.out HG.out HC1.out.1 HC1.out.2 HSM.out HCE.out HA2.out HB3.out HRW.out HROW.out HGR.out HOWN.out rfl
            have hf6 : (w5.setCell ⟨b, 66, none⟩ (.slice a' (rs.length + 1) c')).frozen? ⟨b, 1 + on, none⟩ = false := by
              have := (com_fin (HJ.out.next HA2.out) HB3.out (r := ⟨((on : Nat) : Int), n, some ⟨w2.heap.size + 2, 0, none⟩, us.length, us.length, us⟩) ⟨HRW.out.is, Nat.le_refl _, fun e => by cases e⟩ rfl (by have := HJ.out.lo; have := HJ.out.lt; have := HA2.out.size; omega) ⟨_, HRW.out⟩ (by decide) (by decide) _ 66 HROW.out HGR.out).f0 (1 + on)
              exact this
            have hc5 := com_cell (HJ.out.next HA2.out) HB3.out (by decide) HGR.out (1 + on) _ (HP.out.2.2.2 on HON.out.1 HON.out.2)
            have HX := Lib.hid (And.intro x1 (And.intro x2 x3))
            clear z3 z4 z5 e3 e4 e5 g5 hrun HKP HY HR2 x1 x2 x3 hy7 hne
            go_wp2_with fail
            refine wp_region_held_drew (S := fun w' => w'.cell? ⟨w.heap.size, 0, none⟩ = some (.int .i64 ((on : Nat) : Int)) ∧ w'.cell? ⟨w.heap.size, 1, none⟩ = some (.int .i64 n) ∧ w'.cell? ⟨w.heap.size, 2, none⟩ = some (.slice a us.length cap)) (by kernel_rfl) ?_ (fun hH => ?_)
            · exact z6
            refine wpAnyH_take (i := 0) (oi := { dst := some 23, op := Go.Op.move (Go.Operand.tmp 0), type := 24, pos := "commit.go:27", after := #[], guard := none }) (v := ?_) rfl (by kernel_rfl) (by kernel_rfl) (by kernel_rfl) (fun _ _ _ h => h) (Or.inl ⟨by rfl, ?_⟩) (by assumption) ?_
            rotate_left
            · intro w hSw
              try dsimp only at hSw
              obtain ⟨q0, q1, q2⟩ := hSw
              go_simp
              all_goals with_reducible rfl
            try simp only [Act.put, List.setIfInBounds_toArray, List.set_cons_zero, List.set_cons_succ]
            refine wpAnyH_take (i := 1) (oi := { dst := some 24, op := Go.Op.fieldAddr 43 (Go.Operand.tmp 3) 0, type := 0, pos := "commit.go:27", after := #[], guard := none }) (v := ?_) rfl (by kernel_rfl) (by kernel_rfl) (by kernel_rfl) (fun _ _ _ h => h) (Or.inl ⟨by rfl, ?_⟩) (by assumption) ?_
            rotate_left
            · intro w hSw
              try dsimp only at hSw
              obtain ⟨q0, q1, q2⟩ := hSw
              go_simp
              all_goals with_reducible rfl
            try simp only [Act.put, List.setIfInBounds_toArray, List.set_cons_zero, List.set_cons_succ]
            refine wpAnyH_take (i := 2) (oi := { dst := some 25, op := Go.Op.load 3 (Go.Operand.tmp 24), type := 3, pos := "commit.go:27", after := #[{ on := 1, ground := Go.Ground.data }], guard := none }) (v := ?_) rfl (by kernel_rfl) (by kernel_rfl) (by kernel_rfl) (fun _ _ _ h => h) (Or.inl ⟨by rfl, ?_⟩) (by assumption) ?_
            rotate_left
            · intro w hSw
              try dsimp only at hSw
              obtain ⟨q0, q1, q2⟩ := hSw
              go_simp
              all_goals with_reducible rfl
            try simp only [Act.put, List.setIfInBounds_toArray, List.set_cons_zero, List.set_cons_succ]
            refine wpAnyH_take (i := 3) (oi := { dst := some 26, op := Go.Op.fieldAddr 43 (Go.Operand.tmp 3) 1, type := 0, pos := "commit.go:27", after := #[], guard := none }) (v := ?_) rfl (by kernel_rfl) (by kernel_rfl) (by kernel_rfl) (fun _ _ _ h => h) (Or.inl ⟨by rfl, ?_⟩) (by assumption) ?_
            rotate_left
            · intro w hSw
              try dsimp only at hSw
              obtain ⟨q0, q1, q2⟩ := hSw
              go_simp
              all_goals with_reducible rfl
            try simp only [Act.put, List.setIfInBounds_toArray, List.set_cons_zero, List.set_cons_succ]
            refine wpAnyH_take (i := 4) (oi := { dst := some 27, op := Go.Op.load 3 (Go.Operand.tmp 26), type := 3, pos := "commit.go:27", after := #[{ on := 3, ground := Go.Ground.data }], guard := none }) (v := ?_) rfl (by kernel_rfl) (by kernel_rfl) (by kernel_rfl) (fun _ _ _ h => h) (Or.inl ⟨by rfl, ?_⟩) (by assumption) ?_
            rotate_left
            · intro w hSw
              try dsimp only at hSw
              obtain ⟨q0, q1, q2⟩ := hSw
              go_simp
              all_goals with_reducible rfl
            try simp only [Act.put, List.setIfInBounds_toArray, List.set_cons_zero, List.set_cons_succ]
            refine wpAnyH_take (i := 5) (oi := { dst := some 28, op := Go.Op.nilCheck (Go.Operand.tmp 23), type := 0, pos := "commit.go:27", after := #[{ on := 0, ground := Go.Ground.data }], guard := none }) (v := ?_) rfl (by kernel_rfl) (by kernel_rfl) (by kernel_rfl) (fun _ _ _ h => h) (Or.inl ⟨by rfl, ?_⟩) (by assumption) ?_
            rotate_left
            · intro w hSw
              try dsimp only at hSw
              obtain ⟨q0, q1, q2⟩ := hSw
              go_simp
              all_goals with_reducible rfl
            try simp only [Act.put, List.setIfInBounds_toArray, List.set_cons_zero, List.set_cons_succ]
            refine wpAnyH_take (i := 6) (oi := { dst := some 29, op := Go.Op.fieldAddr 69 (Go.Operand.tmp 28) 1, type := 0, pos := "commit.go:27", after := #[{ on := 5, ground := Go.Ground.data }], guard := none }) (v := ?_) rfl (by kernel_rfl) (by kernel_rfl) (by kernel_rfl) (fun _ _ _ h => h) (Or.inl ⟨by rfl, ?_⟩) (by assumption) ?_
            rotate_left
            · intro w hSw
              try dsimp only at hSw
              obtain ⟨q0, q1, q2⟩ := hSw
              go_simp
              all_goals with_reducible rfl
            try simp only [Act.put, List.setIfInBounds_toArray, List.set_cons_zero, List.set_cons_succ]
            refine wpAnyH_take (i := 7) (oi := { dst := some 30, op := Go.Op.indexAddr 67 (Go.Operand.tmp 29) (Go.Operand.tmp 25), type := 0, pos := "commit.go:27", after := #[{ on := 6, ground := Go.Ground.data }, { on := 2, ground := Go.Ground.data }, { on := 0, ground := Go.Ground.phase }, { on := 1, ground := Go.Ground.phase }, { on := 2, ground := Go.Ground.phase }, { on := 3, ground := Go.Ground.phase }, { on := 4, ground := Go.Ground.phase }], guard := none }) (v := ?_) rfl (by kernel_rfl) (by kernel_rfl) (by kernel_rfl) (fun _ _ _ h => h) (Or.inl ⟨by rfl, ?_⟩) (by assumption) ?_
            rotate_left
            · intro w hSw
              try dsimp only at hSw
              obtain ⟨q0, q1, q2⟩ := hSw
              go_simp
              all_goals with_reducible rfl
            try simp only [Act.put, List.setIfInBounds_toArray, List.set_cons_zero, List.set_cons_succ]
            refine wpAnyH_ready (rs := [8]) (by kernel_rfl) (by simp) ?_
            refine AllReadyH.cons (o := { dst := none, op := Go.Op.store 3 (Go.Operand.tmp 30) (Go.Operand.tmp 27), type := 0, pos := "commit.go:27", after := #[{ on := 7, ground := Go.Ground.data }, { on := 4, ground := Go.Ground.data }, { on := 0, ground := Go.Ground.phase }, { on := 1, ground := Go.Ground.phase }, { on := 2, ground := Go.Ground.phase }, { on := 3, ground := Go.Ground.phase }, { on := 4, ground := Go.Ground.phase }], guard := none }) rfl (fun K hK => ?_) ?_
            · go_simp
              refine hK.out _ _ ?_ (fun hH => ?_)
              · exact z7
              clear hK K
              try simp only [Act.put, List.setIfInBounds_toArray, List.set_cons_zero, List.set_cons_succ]
              refine wpAnyH_done (by kernel_rfl) ?_ _
              clear d0 d1 z6 z7 hf6 hc5
              go_wp2
              go_ret
              exact ⟨rfl, F', HX.out.1.asit rfl, ⟨HX.out.2.1.os, HX.out.2.1.tape, HX.out.2.1.output, HX.out.2.1.size, HX.out.2.1.block⟩, HX.out.2.2⟩
            exact AllReadyH.nil
          exact AllReadyH.nil
        exact AllReadyH.nil
      exact AllReadyH.nil
    exact AllReadyH.nil
  exact AllReadyH.nil
theorem cadd_any (hn : L.length ≤ 1000) (r : Rn) (hsm : Sm r.us) (w : World) (hu : Ru w r) (h : Cx 69 Pc B w b F c L) :
    Calls Tryd.prog 19 #[.pointer (some ⟨b, 0, none⟩), rv r] w fun e w' => e = .returned (.int .i64 (comE c L (kR r))) ∧ ∃ F', ComW 69 Pc B w w' b F F' c L (kR r) := by
  obtain ⟨o, n, a, len, cap, us⟩ := r
  by_cases he : comE c L (o, n, us) = 0
  · obtain ⟨on, rfl⟩ : ∃ on : Nat, o = (on : Int) := ⟨o.toNat, by
      obtain ⟨h3, _⟩ := comE_zero he
      obtain ⟨h4, _⟩ := mayR_zero h3
      unfold headOk at h4
      simp only at h4
      omega⟩
    refine (cadd_ok hn on n a len cap us hsm he w hu.1 h).mono ?_
    rintro e w1 ⟨rfl, F', x1, x2, x3⟩
    have e2 : comE c L (kR ⟨(on : Int), n, a, len, cap, us⟩) = 0 := he
    exact ⟨by rw [e2], F', ⟨by rw [comL_yes e2]; exact x1, x2, x3⟩⟩
  · refine (cadd_no o n a len cap us _ rfl he w hu.1 h).mono ?_
    rintro e w1 ⟨rfl, hb⟩
    exact ⟨rfl, F, comW_no h hb he⟩
end
end Go.Proofs.YtjmkdgjdemndaaaDoor

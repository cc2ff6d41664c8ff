/- Calls that came in; great; the program's log, link and feed beside the document's. -/
import Derived.Test.YtjmkdgjdemndaaaDoorD4
namespace Go.Proofs.YtjmkdgjdemndaaaDoor
open Go Go.RowKit
set_option maxRecDepth 20000
/-- A call: its kind, its frame, its round. -/
abbrev Ac := Int × K.Fra × Rn
def ac0 : Ac := (0, K.fr0, rn0)
/-- The eight cells of a call lie there. -/
structure A8 (w : World) (b o : Nat) (c : Ac) : Prop where
  k : w.cell? ⟨b, o, none⟩ = some (.int .i64 c.1)
  e : w.cell? ⟨b, o + 1, none⟩ = some (.int .i64 c.2.1.1)
  s : w.cell? ⟨b, o + 2, none⟩ = some (.int .i64 c.2.1.2.1)
  a : w.cell? ⟨b, o + 3, none⟩ = some (.int .i64 c.2.1.2.2.1)
  d : w.cell? ⟨b, o + 4, none⟩ = some (.string c.2.1.2.2.2)
  ro : w.cell? ⟨b, o + 5, none⟩ = some (.int .i64 c.2.2.o)
  rn : w.cell? ⟨b, o + 6, none⟩ = some (.int .i64 c.2.2.n)
  ru : w.cell? ⟨b, o + 7, none⟩ = some (.slice c.2.2.a c.2.2.len c.2.2.cap)
theorem A8.below {w w' : World} {B b o : Nat} {c : Ac} (h : A8 w b o c) (hb : Below B w w') (hl : b < B) : A8 w' b o c := by
  obtain ⟨h1, h2, h3, h4, h5, h6, h7, h8⟩ := h
  constructor <;> (rw [hb.cell hl]; assumption)
/-- What the walk is told of a row of calls. -/
structure IsAs (w : World) (a : Option Addr) (len : Nat) (l : List Ac) : Prop where
  size : l.length = len
  lies : 0 < len → ∃ b off, a = some ⟨b, off, none⟩ ∧ b < w.heap.size ∧ ∀ i, i < len → A8 w b (off + i * 8) (l.getD i ac0)
  each : ∀ i, i < len → Ru w (l.getD i ac0).2.2
theorem isAs_below {w w' : World} {a : Option Addr} {len : Nat} {l : List Ac} (h : IsAs w a len l) (hb : Below w.heap.size w w') : IsAs w' a len l :=
  ⟨h.size, fun h0 => by
    obtain ⟨b, off, e, hl, hf⟩ := h.lies h0
    exact ⟨b, off, e, by have := hb.size; omega, fun i hi => (hf i hi).below hb hl⟩, fun i hi => (h.each i hi).below hb⟩
theorem acells_of {w wr : World} {a : Option Addr} {len : Nat} {l : List Ac} {k : Nat} (h : IsAs w a len l) (hb : Below w.heap.size w wr) (hk : k < len) : ∃ b off, a = some ⟨b, off, none⟩ ∧ A8 wr b (off + k * 8) (l.getD k ac0) := by
  obtain ⟨b, off, rfl, _, hf⟩ := (isAs_below h hb).lies (by omega)
  exact ⟨b, off, rfl, hf k hk⟩
/-- A call in a block of its own. -/
def Ab (w : World) (g : Nat) (kd fe fs fa : Int) (fd : ByteArray) (ro rn : Int) (ra : Option Addr) (rl rc : Nat) : Prop := w.heap[g]? = some (.cells #[.int .i64 kd, .int .i64 fe, .int .i64 fs, .int .i64 fa, .string fd, .int .i64 ro, .int .i64 rn, .slice ra rl rc] 45 (0, 0))
section
variable {w w' : World} {g : Nat} {kd fe fs fa : Int} {fd : ByteArray} {ro rn : Int} {ra : Option Addr} {rl rc : Nat}
theorem Ab.c0 (h : Ab w g kd fe fs fa fd ro rn ra rl rc) : w.cell? ⟨g, 0, none⟩ = some (.int .i64 kd) := cell_at h 0 _ rfl
theorem Ab.fr (h : Ab w g kd fe fs fa fd ro rn ra rl rc) : w.cell? ⟨g, 1, none⟩ = some (.int .i64 fe) ∧ w.cell? ⟨g, 2, none⟩ = some (.int .i64 fs) ∧ w.cell? ⟨g, 3, none⟩ = some (.int .i64 fa) ∧ w.cell? ⟨g, 4, none⟩ = some (.string fd) := ⟨cell_at h 1 _ rfl, cell_at h 2 _ rfl, cell_at h 3 _ rfl, cell_at h 4 _ rfl⟩
theorem Ab.rd (h : Ab w g kd fe fs fa fd ro rn ra rl rc) : w.cell? ⟨g, 5, none⟩ = some (.int .i64 ro) ∧ w.cell? ⟨g, 6, none⟩ = some (.int .i64 rn) ∧ w.cell? ⟨g, 7, none⟩ = some (.slice ra rl rc) := ⟨cell_at h 5 _ rfl, cell_at h 6 _ rfl, cell_at h 7 _ rfl⟩
theorem Ab.same (h : Ab w g kd fe fs fa fd ro rn ra rl rc) (e : w'.heap[g]? = w.heap[g]?) : Ab w' g kd fe fs fa fd ro rn ra rl rc := e.trans h
theorem Ab.lt (h : Ab w g kd fe fs fa fd ro rn ra rl rc) : g < w.heap.size := (Array.getElem?_eq_some_iff.1 h).1
theorem Ab.next (h : Ab w g kd fe fs fa fd ro rn ra rl rc) (hb : Below w.heap.size w w') : Ab w' g kd fe fs fa fd ro rn ra rl rc := h.same (hb.block g h.lt)
theorem Ab.othF (h : Ab w g kd fe fs fa fd ro rn ra rl rc) (ho : OthF w w') : Ab w' g kd fe fs fa fd ro rn ra rl rc := h.same (ho g _ _ _ h (by decide) (by decide) (by decide) (by decide) (by decide))
theorem Ab.lv (h : Ab w g kd fe fs fa fd ro rn ra rl rc) {F : Nat → Prop} {B b : Nat} {c : Int} {L : List Cr} (hg : Cx 69 Pc B w b F c L) (hl : Lv w w' F) : Ab w' g kd fe fs fa fd ro rn ra rl rc := h.same (hl.block g h.lt (hg.no h (by decide) (by decide) (by decide)))
end
/-- A call that is played. -/
def okA (x : Ac) : Prop := ¬ gR x.2.2.us ∧ x.2.1.2.2.2.size ≤ 100 ∧ (x.1 = 2 → K.okF x.2.1)
theorem okA_sm {x : Ac} (h : okA x) : Sm x.2.2.us := by
  have h1 := h.1
  unfold gR gAll at h1
  refine ⟨by omega, fun j hj => ?_⟩
  have h2 : ¬ gU (x.2.2.us.getD j up0) := fun hx => h1 (.inr (.inr ⟨j, hj, hx⟩))
  unfold gU at h2
  omega
set_option maxHeartbeats 4000000 in
theorem great_any (a : Option Addr) (len cap : Nat) (l : List Ac) (w : World) (h : IsAs w a len l) :
    Calls Tryd.prog 13 #[.slice a len cap] w fun e w' => (∃ bt, e = .returned (.bool bt) ∧ (bt = false → len ≤ 60 ∧ ∀ i, i < len → okA (l.getD i ac0))) ∧ Below w.heap.size w w' := by
  have H := Lib.hid h
  clear h
  by_cases hl : 60 < len
  · have q : decide ((60 : Int) < (len : Int)) = true := decide_eq_true (by omega)
    go_enter Tryd.func13, Tryd.ntmps13
    go_wp2
    go_ret
    exact ⟨⟨true, rfl, fun e => by cases e⟩, Below.refl _ _⟩
  have q : decide ((60 : Int) < (len : Int)) = false := decide_eq_false (by omega)
  go_enter Tryd.func13, Tryd.ntmps13
  go_wp2_with fail
  go_loopw [10] (fun v10 wr => ∃ k : Nat, k ≤ len ∧ v10 = .int .i64 k ∧ Below w.heap.size w wr ∧ ∀ i, i < k → okA (l.getD i ac0)) (fun v10 _ => len - (intOf v10).toNat)
  case atStart => exact ⟨0, Nat.zero_le _, rfl, Below.refl _ _, fun i hi => absurd hi (by omega)⟩
  case round =>
    obtain ⟨k, hk, rfl, hbel, hok⟩ := hrel
    by_cases hlt : k < len
    · obtain ⟨b, off, e1, c0, c1, c2, c3, c4, c5, c6, c7⟩ := acells_of H.out hbel hlt
      subst e1
      have hru := (H.out.each k hlt).below hbel
      have hsz := H.out.size
      have hstep : ∀ (x : Ac), l.getD k ac0 = x → okA x → ∀ i, i < k + 1 → okA (l.getD i ac0) := fun x hx h i hi => by
        by_cases h2 : i < k
        · exact hok i h2
        · rw [show i = k by omega, hx]; exact h
      generalize hx : l.getD k ac0 = x at *
      obtain ⟨kd, ⟨fe, fs, fa, fd⟩, ⟨ro, rn, ra, rl, rc, rus⟩⟩ := x
      simp only at c0 c1 c2 c3 c4 c5 c6 c7 hru
      have hstep := hstep _ rfl
      have HST := Lib.hid hstep
      have hab : Ab (wr.alloc (.cells #[.int .i64 kd, .int .i64 fe, .int .i64 fs, .int .i64 fa, .string fd, .int .i64 ro, .int .i64 rn, .slice ra rl rc] 45)) wr.heap.size kd fe fs fa fd ro rn ra rl rc := heap_alloc_new wr _
      obtain ⟨e5, e6, e7⟩ := hab.rd
      have hB := Below.next hbel (Joins.below_alloc1 wr (.cells #[.int .i64 kd, .int .i64 fe, .int .i64 fs, .int .i64 fa, .string fd, .int .i64 ro, .int .i64 rn, .slice ra rl rc] 45))
      have hru2 := (hru.below (Joins.below_alloc1 wr (.cells #[.int .i64 kd, .int .i64 fe, .int .i64 fs, .int .i64 fa, .string fd, .int .i64 ro, .int .i64 rn, .slice ra rl rc] 45))).1
      simp only at hru2
      have HB := Lib.hid hB
      have HAB := Lib.hid hab
      have HU := Lib.hid hru2
      clear hru hru2 hB hab hok hbel hstep hx
      by_cases hg : gR rus
      · have HG := fun W h => Lib.hid (greatR_yes ro rn ra rl rc rus hg W h)
        clear hg
        go_wp2_with fail
        refine (HG _ HU.out).out.mono ?_
        rintro e w2 ⟨rfl, hb⟩
        have HB2 := Lib.hid (Below.next HB.out hb)
        clear hb HB
        go_wp2
        go_ret
        exact ⟨⟨true, rfl, fun e => by cases e⟩, HB2.out⟩
      · have HG := fun W h => Lib.hid (greatR_no ro rn ra rl rc rus hg W h)
        have HNG := Lib.hid hg
        clear hg
        by_cases hd : 100 < fd.size
        · have q3 : decide ((100 : Int) < (fd.size : Int)) = true := decide_eq_true (by omega)
          go_wp2_with fail
          refine (HG _ HU.out).out.mono ?_
          rintro e w2 ⟨rfl, hb⟩
          have HB2 := Lib.hid (Below.next HB.out hb)
          obtain ⟨_, _, _, m4⟩ := (HAB.out.next hb).fr
          clear hb HB
          go_wp2
          go_ret
          exact ⟨⟨true, rfl, fun e => by cases e⟩, HB2.out⟩
        · have q3 : decide ((100 : Int) < (fd.size : Int)) = false := decide_eq_false (by omega)
          by_cases hk2 : kd = 2
          · subst hk2
            go_wp2_with fail
            refine (HG _ HU.out).out.mono ?_
            rintro e w2 ⟨rfl, hb⟩
            have HB2 := Lib.hid (Below.next HB.out hb)
            have m0 := (HAB.out.next hb).c0
            obtain ⟨m1, m2, m3, m4⟩ := (HAB.out.next hb).fr
            clear hb HB
            go_wp2_with fail
            refine (K.may_any (fe, fs, fa, fd) _).mono ?_
            rintro e w3 ⟨⟨n, rfl, hok⟩, hb⟩
            have HB3 := Lib.hid (Below.next HB2.out hb)
            have HOK := Lib.hid hok
            clear hb HB2 hok m0 m1 m2 m3 m4
            by_cases hn : n = 0
            · have k1 : (n != 0) = false := by rw [bne_eq_false_iff_eq]; exact hn
              have HOK2 := Lib.hid (HST.out ⟨HNG.out, by show fd.size ≤ 100; omega, fun _ => HOK.out hn⟩)
              clear hn HOK
              go_wp2
              go_roundw
              case rel => exact ⟨k + 1, by omega, by go_num, HB3.out, HOK2.out⟩
              case measure => simp [intOf]; omega
            · have k1 : (n != 0) = true := bne_iff_ne.2 hn
              clear hn HOK
              go_wp2
              go_ret
              exact ⟨⟨true, rfl, fun e => by cases e⟩, HB3.out⟩
          · have k2 : (kd == 2) = false := beq_eq_false_iff_ne.2 hk2
            have HOK2 := Lib.hid (HST.out ⟨HNG.out, by show fd.size ≤ 100; omega, fun e => absurd e hk2⟩)
            clear hk2
            go_wp2_with fail
            refine (HG _ HU.out).out.mono ?_
            rintro e w2 ⟨rfl, hb⟩
            have HB2 := Lib.hid (Below.next HB.out hb)
            have m0 := (HAB.out.next hb).c0
            obtain ⟨m1, m2, m3, m4⟩ := (HAB.out.next hb).fr
            clear hb HB
            go_wp2
            go_roundw
            case rel => exact ⟨k + 1, by omega, by go_num, HB2.out, HOK2.out⟩
            case measure => simp [intOf]; omega
    · obtain rfl : k = len := by omega
      have HBEL := Lib.hid hbel
      have HOK := Lib.hid hok
      clear hbel hok
      go_wp2
      go_ret
      exact ⟨⟨false, rfl, fun _ => ⟨by omega, HOK.out⟩⟩, HBEL.out⟩
/-- Both sides within a law that began in w0. -/
structure Fd (w0 w : World) (lb : Nat) (F : Nat → Prop) (L : List Cr) (b bs br : Nat) (E : K.En) (fb p : Nat) (db : Nat) (G : Nat → Prop) (M : List Cr) (d ds dr : Nat) (D : K.En) (gb q : Nat) : Prop where
  f : Fj w0 w lb F 3 L b bs br E fb p
  g : Dj w0 w db G 3 M d ds dr D gb q
  dis : ∀ k, F k → ¬ G k
section
variable {w0 w w' : World} {lb db : Nat} {F G : Nat → Prop} {L M : List Cr} {b bs br d ds dr : Nat} {E D : K.En} {fb gb p q : Nat}
theorem Fd.next (h : Fd w0 w lb F L b bs br E fb p db G M d ds dr D gb q) (hb : Below w.heap.size w w') : Fd w0 w' lb F L b bs br E fb p db G M d ds dr D gb q := ⟨h.f.next hb, h.g.next hb, h.dis⟩
theorem fd_pump {E' : K.En} {n : Nat} (hE : pumpE E (L.drop p) = E') (hn : pumpN E (L.drop p) = n) (hpl : p ≤ L.length) (hL : L.length ≤ 1000) (hd : X.Wd w0) (w : World) (h : Fd w0 w lb F L b bs br E fb p db G M d ds dr D gb q) :
    Calls Tryd.prog 14 #[.pointer (some ⟨fb, 0, none⟩), .pointer (some ⟨lb, 0, none⟩), .pointer (some ⟨b, 0, none⟩)] w fun e w' => e = .returned (.int .i64 (n : Int)) ∧ Fd w0 w' lb F L b bs br E' fb (p + n) db G M d ds dr D gb q := by
  refine (pump_any hE hn hpl hL hd w h.f).mono ?_
  rintro e w1 ⟨rfl, h1, h2⟩
  exact ⟨rfl, h1, h.g.oth h1.bel h2, h.dis⟩
theorem fd_dpump {D' : K.En} {n : Nat} (hE : pumpE D (M.drop q) = D') (hn : pumpN D (M.drop q) = n) (hql : q ≤ M.length) (hM : M.length ≤ 1000) (hb : D.k + D.ds.length + M.length ≤ 10000) (w : World) (h : Fd w0 w lb F L b bs br E fb p db G M d ds dr D gb q) :
    Calls Tryd.prog 15 #[.pointer (some ⟨gb, 0, none⟩), .pointer (some ⟨db, 0, none⟩), .pointer (some ⟨d, 0, none⟩)] w fun e w' => e = .returned (.int .i64 (n : Int)) ∧ Fd w0 w' lb F L b bs br E fb p db G M d ds dr D' gb (q + n) := by
  refine (dpump_any hE hn hql hM hb w h.g).mono ?_
  rintro e w1 ⟨rfl, h1, h2⟩
  exact ⟨rfl, h.f.oth h1.bel h2, h1, h.dis⟩
theorem fd_hear {f : K.Fra} {E' : K.En} {an : Bool} (hE : E.hear f = E') (ha : E.anew f = an) (hx : f.2.2.2.size ≤ 1000) (hq : E.q + E.ps.length ≤ 1000000) (w : World) (h : Fd w0 w lb F L b bs br E fb p db G M d ds dr D gb q) :
    Calls Tryd.prog 16 #[.pointer (some ⟨b, 0, none⟩), K.fv f] w fun e w' => e = .returned (.bool an) ∧ (∃ bs' br', Fd w0 w' lb F L b bs' br' E' fb p db G M d ds dr D gb q) ∧ OthF w w' := by
  refine (fj_hear hE ha hx hq w h.f).mono ?_
  rintro e w1 ⟨rfl, ⟨bs', br', h1⟩, h2⟩
  exact ⟨rfl, ⟨bs', br', h1, h.g.oth h1.bel h2, h.dis⟩, h2⟩
theorem fd_dhear {f : K.Fra} {D' : K.En} {an : Bool} (hE : D.hear f = D') (ha : D.anew f = an) (hx : f.2.2.2.size ≤ 1000) (hq : D.q + D.ps.length ≤ 10000) (hok : K.okF f) (w : World) (h : Fd w0 w lb F L b bs br E fb p db G M d ds dr D gb q) :
    Calls Tryd.prog 17 #[.pointer (some ⟨d, 0, none⟩), K.fv f] w fun e w' => e = .returned (.bool an) ∧ ∃ ds' dr', Fd w0 w' lb F L b bs br E fb p db G M d ds' dr' D' gb q := by
  refine (dj_hear hE ha hx hq hok w h.g).mono ?_
  rintro e w1 ⟨rfl, ⟨ds', dr', h1⟩, h2⟩
  exact ⟨rfl, ds', dr', h.f.oth h1.bel h2, h1, h.dis⟩
theorem Fd.put (h : Fd w0 w lb F L b bs br E fb p db G M d ds dr D gb q) (n : Nat) : Fd w0 (w.setCell ⟨fb, 0, none⟩ (.int .i64 (n : Int))) lb F L b bs br E fb n db G M d ds dr D gb q :=
  ⟨h.f.put n, h.g.oth (h.f.put n).bel (.set h.f.fd 0 _), h.dis⟩
theorem Fd.dput (h : Fd w0 w lb F L b bs br E fb p db G M d ds dr D gb q) (n : Nat) : Fd w0 (w.setCell ⟨gb, 0, none⟩ (.int .i64 (n : Int))) lb F L b bs br E fb p db G M d ds dr D gb n :=
  ⟨h.f.oth (h.g.put n).bel (.set h.g.fd 0 _), h.g.put n, h.dis⟩
theorem fd_add (hn : L.length ≤ 1000) (r : Rn) (hsm : Sm r.us) (w : World) (hu : Ru w r) (h : Fd w0 w lb F L b bs br E fb p db G M d ds dr D gb q) :
    Calls Tryd.prog 19 #[.pointer (some ⟨lb, 0, none⟩), rv r] w fun e w' => (∃ n, e = .returned (.int .i64 n)) ∧ (∃ F', Fd w0 w' lb F' (comL 3 L (kR r)) b bs br E fb p db G M d ds dr D gb q) ∧ Lv w w' F := by
  refine (cadd_any hn r hsm w hu h.f.lg).mono ?_
  rintro e w1 ⟨rfl, F', hc⟩
  have h1 := h.f.add hc
  refine ⟨⟨_, rfl⟩, ⟨F', h1, h.g.lv h1.bel h.f.lg hc.lv h.dis, fun k hk hG => ?_⟩, hc.lv⟩
  rcases hc.new k hk with hF | hF
  · exact h.dis k hF hG
  · have := (h.g.lg.foot k hG).2
    omega
theorem fd_dadd (hn : M.length ≤ 1000) (r : Rn) (hsm : Sm r.us) (w : World) (hu : Ru w r) (h : Fd w0 w lb F L b bs br E fb p db G M d ds dr D gb q) :
    Calls Tryd.prog 20 #[.pointer (some ⟨db, 0, none⟩), rv r] w fun e w' => (∃ n, e = .returned (.int .i64 n)) ∧ ∃ G', Fd w0 w' lb F L b bs br E fb p db G' (comL 3 M (kR r)) d ds dr D gb q := by
  refine (dadd_any hn r hsm w hu h.g.lg).mono ?_
  rintro e w1 ⟨rfl, G', hc⟩
  have h1 := h.g.add hc
  refine ⟨⟨_, rfl⟩, G', h.f.lv h1.bel h.g.lg hc.lv h.dis, h1, fun k hk hG => ?_⟩
  rcases hc.new k hG with hF | hF
  · exact h.dis k hk hF
  · have := (h.f.lg.foot k hk).2
    omega
end
namespace K
theorem hearD_len (room : Int) (k : Nat) (ps : List ByteArray) (seq : Int) (x : ByteArray) : (Rcv.hearD room k ps seq x).length ≤ ps.length + 1 := by
  unfold Rcv.hearD
  split
  · simp
  · omega
theorem hear_few (E : En) (f : Fra) : (E.hear f).q + (E.hear f).ps.length ≤ E.q + E.ps.length + 1 := by
  unfold En.hear
  split
  · omega
  · split
    · unfold En.take En.fresh
      have := hearD_len (Rcv.roomOf E.ra) 0 [] f.2.1 f.2.2.2
      simp only [List.length_nil] at *
      omega
    · unfold En.take
      have := hearD_len (Rcv.roomOf E.ra) E.q E.ps f.2.1 f.2.2.2
      simp only
      omega
end K
theorem fr_len (E : K.En) : E.frames.length ≤ E.ds.length + 1 := by
  unfold K.En.frames
  split
  · exact Nat.zero_le _
  · split
    · simp
    · rw [K.frs_len]; omega
theorem pump_few (E : K.En) (rs : List Cr) : (pumpE E rs).k + (pumpE E rs).ds.length ≤ E.k + E.ds.length + rs.length ∧ (pumpE E rs).q + (pumpE E rs).ps.length = E.q + E.ps.length := by
  rw [pump_is]
  refine ⟨?_, rfl⟩
  have := pumpN_le rs E
  simp only [List.length_append, List.length_map, List.length_take]
  omega
end Go.Proofs.YtjmkdgjdemndaaaDoor

/-
  Both ends may send at once: each gets what the other pushed, in order.
-/
import Derived.Test.YtfbojcaedcimcaaMap
namespace Go.Proofs.Ytfbojcaedcimcaa
open Go.RowKit

/-- The outset: so many were pushed at the one end, so many at the other; all that is out is on its way. -/
structure Beg (l : List ByteArray) (i n : Nat) (S T : Sh) (M R : List Ms) : Prop where
  both : Both S (Dk.new 3) T (Dk.new 3) M R [] [] n
  all : S.all = l.take i
  g : S.g = 0
  que : S.que = 16
  fresh : Fresh S (dM M)
  cnt : (dM M).length = S.last
  no : aM M = []
theorem Beg.push {l : List ByteArray} {i n : Nat} {S T : Sh} {M R : List Ms} {r : Bool} (h : Beg l i n S T M R) (hi : i < l.length) (hn : n < 500) (hs : l[i].size ≤ 30000) :
    Beg l (i + 1) (n + 1) (S.pushed r l[i]) T (M ++ dMs (numd S.last (S.pushI r l[i]))) R ∨ S.room r = false := by
  cases hr : S.room r
  · exact Or.inr rfl
  refine Or.inl ⟨both_push h.both hn hs, ?_, pushed_same.1.trans h.g, pushed_same.2.1.trans h.que, ?_, ?_, ?_⟩
  · rw [all_pushed, hr, if_pos rfl, h.all, List.take_succ_eq_append_getElem hi]
  · rw [dM_app, (dM_dMs _).1]
    exact fresh_push h.fresh h.both.xy.s hs
  · rw [dM_app, (dM_dMs _).1, List.length_append, numd_len0, h.cnt]
    exact (goes_pushed h.both.xy.s hs).1.symm
  · rw [aM_app, (dM_dMs _).2, h.no]
    rfl
theorem Beg.room {l : List ByteArray} {i n : Nat} {S T : Sh} {M R : List Ms} {r : Bool} (h : Beg l i n S T M R) (hi : i ≤ 8) : S.room r = true := by
  refine room_few ?_
  have h1 := S.waits_len
  have h2 : S.all.length ≤ i := by rw [h.all, List.length_take]; exact Nat.min_le_left _ _
  have h3 := h.que
  omega

def newB : Te := Te.new 3 16 1 4
/-- One push after the other. -/
def BegRel (W : World) (x y : Nat) (l : List ByteArray) (v9 vi : Value) (wr : World) : Prop :=
  ∃ i S M L, vi = .int .i64 ((i : Nat) : Int) ∧ i ≤ l.length ∧ St W x y ⟨S, Dk.new 3⟩ newB [] [frO v9 L, frO (.slice none 0 0) []] wr ∧ L.map Bd.s = M.map wireM ∧ Beg l i i S newB.s M []
def BegRel2 (W : World) (x y : Nat) (l r : List ByteArray) (v9 v10 vi : Value) (wr : World) : Prop :=
  ∃ i SX MX LX S M L, vi = .int .i64 ((i : Nat) : Int) ∧ i ≤ r.length ∧ St W x y ⟨SX, Dk.new 3⟩ ⟨S, Dk.new 3⟩ [] [frO v9 LX, frO v10 L] wr ∧ LX.map Bd.s = MX.map wireM ∧ L.map Bd.s = M.map wireM ∧
    Beg l l.length (8 + i) SX S MX M ∧ Beg r i (8 + i) S SX M MX

/-- Between two rounds. -/
structure Mid (l r : List ByteArray) (n : Nat) (SX : Sh) (DX : Dk) (SY : Sh) (DY : Dk) (sx sy : List Ms) (gx gy : List ByteArray) : Prop where
  both : Both SX DX SY DY sx sy gx gy 16
  nx : NeedB SX (dM sx) (aM sy) (30 - n)
  ny : NeedB SY (dM sy) (aM sx) (30 - n)
  ax : SX.all = l
  ay : SY.all = r
  cnt : (dM sx).length ≤ 16 ∧ (aM sx).length ≤ 16 ∧ (dM sy).length ≤ 16 ∧ (aM sy).length ≤ 16
def MidRel (W : World) (x y : Nat) (l r : List ByteArray) (v9 v10 v17 v18 vn : Value) (wr : World) : Prop :=
  ∃ n SX DX SY DY sx sy gx gy L9 L10, vn = .int .i64 ((n : Nat) : Int) ∧ n ≤ 30 ∧ St W x y ⟨SX, DX⟩ ⟨SY, DY⟩ [] [stO v17 gx, stO v18 gy, frO v9 L9, frO v10 L10] wr ∧ L9.map Bd.s = sx.map wireM ∧ L10.map Bd.s = sy.map wireM ∧ Mid l r n SX DX SY DY sx sy gx gy
theorem mid_first {l r : List ByteArray} {SX SY : Sh} {sx sy : List Ms} (h1 : Beg l l.length (8 + r.length) SX SY sx sy) (h2 : Beg r r.length (8 + r.length) SY SX sy sx) (hl : l.length ≤ 8) (hr : r.length ≤ 8) : Mid l r 0 SX (Dk.new 3) SY (Dk.new 3) sx sy [] [] := by
  have a1 : SX.all = l := by rw [h1.all, List.take_length]
  have a2 : SY.all = r := by rw [h2.all, List.take_length]
  have c1 := h1.cnt
  have c2 := h2.cnt
  have l1 := Sh.last_all h1.both.xy.s
  have l2 := Sh.last_all h2.both.xy.s
  rw [a1] at l1
  rw [a2] at l2
  refine ⟨h1.both.more (by omega) (by omega), needB_more (needB_first h1.fresh) (by rw [a1]; omega), needB_more (needB_first h2.fresh) (by rw [a2]; omega), a1, a2, by omega, by rw [h1.no]; exact Nat.zero_le _, by omega, by rw [h2.no]; exact Nat.zero_le _⟩

/-- One end hears the row: so much of it so far. -/
structure Hrs (SP : Sh) (DP : Dk) (S1 : Sh) (D1 : Dk) (M : List Ms) (i : Nat) (S : Sh) (D : Dk) (O : List Ms) (got gotP : List ByteArray) : Prop where
  e : Ears SP DP S1 D1 M 16 S D O got gotP (M.take i)
  d : (dM O).length + S1.last = S.last
  a : (aM O).length = (dM (M.take i)).length
section
variable {SP S1 S : Sh} {DP D1 D : Dk} {M O : List Ms} {got gotP : List ByteArray} {i : Nat}
theorem Hrs.none (h : Ears SP DP S1 D1 M 16 S1 D1 [] got gotP []) : Hrs SP DP S1 D1 M 0 S1 D1 [] got gotP := ⟨h, by simp [dM], by simp [dM, aM]⟩
theorem Hrs.len (h : Hrs SP DP S1 D1 M i S D O got gotP) (hM : (dM M).length ≤ 16) : (dM O).length ≤ 16 ∧ (aM O).length ≤ 16 ∧ O.length ≤ 32 := by
  have h1 := h.d
  have h2 := h.a
  have h3 := h.e.t.net.s.last_le
  have h4 : (dM (M.take i)).length ≤ (dM M).length := by
    have : dM M = dM (M.take i) ++ dM (M.drop i) := by rw [← dM_app, List.take_append_drop]
    rw [this, List.length_append]
    omega
  have h5 := len_M O
  omega
theorem Hrs.got_len (h : Hrs SP DP S1 D1 M i S D O got gotP) : got.length ≤ 16 := by
  rw [h.e.h.net.link.got, List.length_take]
  have := h.e.h.net.s.all
  omega
theorem Hrs.step {d : Bd} (h : Hrs SP DP S1 D1 M i S D O got gotP) (hi : i < M.length) (hd : d.s = wireM M[i]) : okB d.s = true ∧ d.s.size ≤ 1000000 ∧ ∃ S' D' O1 up, (⟨S, D⟩ : Te).hear true (gotB d.s) = ⟨S', D'⟩ ∧ (⟨S, D⟩ : Te).up true (gotB d.s) = up ∧
    (⟨S, D⟩ : Te).down true (gotB d.s) = O1.map wireM ∧ Hrs SP DP S1 D1 M (i + 1) S' D' (O ++ O1) (got ++ up) gotP ∧ up.length + got.length ≤ 16 := by
  rw [hd]
  obtain ⟨h1, h2, S', D', O1, up, e1, e2, e3, hE, c1, c2, c3⟩ := ears_hear h.e (m := M[i]) (List.getElem_mem _)
  rw [← List.take_succ_eq_append_getElem hi] at hE
  refine ⟨h1, h2, S', D', O1, up, e1, e2, e3, ⟨hE, ?_, ?_⟩, c3⟩
  · rw [dM_app, List.length_append]
    have := h.d
    omega
  · rw [aM_app, List.take_succ_eq_append_getElem hi, dM_app, List.length_append, List.length_append, h.a, c2]
end
/-- The hearer is p, the other q; the row that it hears is Lm; O: the other rows. -/
def HrsRel (W : World) (p q : Nat) (T2 : Te) (SP : Sh) (DP : Dk) (S1 : Sh) (D1 : Dk) (M : List Ms) (gotP : List ByteArray) (R : List Orow) (vg vo vi : Value) (wr : World) : Prop :=
  ∃ i S D O got L, vi = .int .i64 ((i : Nat) : Int) ∧ i ≤ M.length ∧ St W p q ⟨S, D⟩ T2 [] ([] ++ stO vg got :: ([frO vo L] ++ R)) wr ∧ L.map Bd.s = O.map wireM ∧ Hrs SP DP S1 D1 M i S D O got gotP
/-- What goes up, one after the other. -/
def UpsRel (W : World) (p q : Nat) (T T2 : Te) (G : List (Value × List Bd)) (R : List Orow) (got up : List ByteArray) (vg vk : Value) (wr : World) : Prop :=
  ∃ k, vk = .int .i64 ((k : Nat) : Int) ∧ k ≤ up.length ∧ St W p q T T2 G ([] ++ stO vg (got ++ up.take k) :: R) wr
def TailRel (W : World) (x y : Nat) (T1 T2 : Te) (O : List Orow) (m : Nat) (vi : Value) (wr : World) : Prop := ∃ i, vi = .int .i64 ((i : Nat) : Int) ∧ i ≤ m ∧ St W x y T1 T2 [] O wr
theorem mid_next {l r : List ByteArray} {n : Nat} {SX SY SX' SY' : Sh} {DX DY DX' DY' : Dk} {sx sy sx' sy' : List Ms} {gx gy gx' gy' : List ByteArray} (h : Mid l r n SX DX SY DY sx sy gx gy) (hn : n < 30)
    (hy : Hrs SX DX SY DY sx sx.length SY' DY' sy' gy' gx) (hx : Hrs SY DY' SX DX sy sy.length SX' DX' sx' gx' gy') : Mid l r (n + 1) SX' DX' SY' DY' sx' sy' gx' gy' := by
  have e1 := hy.e
  have e2 := hx.e
  rw [List.take_length] at e1 e2
  obtain ⟨h1, h2, h3⟩ := both_next h.both e1 e2
  have c1 := hy.len h.cnt.1
  have c2 := hx.len h.cnt.2.2.1
  refine ⟨h1, h2 _ (by rw [show 30 - (n + 1) + 1 = 30 - n by omega]; exact h.nx), h3 _ (by rw [show 30 - (n + 1) + 1 = 30 - n by omega]; exact h.ny), e2.t.all.trans h.ax, e1.t.all.trans h.ay, by omega⟩
/-- All is done. -/
theorem mid_done {l r : List ByteArray} {n : Nat} {SX SY : Sh} {DX DY : Dk} {sx sy : List Ms} {gx gy : List ByteArray} (h : Mid l r n SX DX SY DY sx sy gx gy) (hd : n = 30 ∨ (sx = [] ∧ sy = [])) :
    gx = r ∧ gy = l ∧ SX.out = [] ∧ SX.waits = [] ∧ DX.held = [] ∧ SY.out = [] ∧ SY.waits = [] ∧ DY.held = [] := by
  have gX : SX.g = SX.all.length := by
    rcases hd with rfl | ⟨rfl, rfl⟩
    · exact both_zero h.nx h.both.xy.s
    · exact both_none h.nx h.both.xy.s
  have gY : SY.g = SY.all.length := by
    rcases hd with rfl | ⟨rfl, rfl⟩
    · exact both_zero h.ny h.both.yx.s
    · exact both_none h.ny h.both.yx.s
  obtain ⟨a1, a2, a3, a4⟩ := both_done gX h.both.xy.s h.both.xy.link h.both.xy.d
  obtain ⟨b1, b2, b3, b4⟩ := both_done gY h.both.yx.s h.both.yx.link h.both.yx.d
  exact ⟨b1.trans h.ay, a1.trans h.ax, a2, a3, b4, b2, b3, a4⟩
theorem tie_newz {wi qu f m : Nat} {za zq zf zm : Int} {T : Te} (w : World) (ha : (wi : Int) = za) (hq' : (qu : Int) = zq) (hf' : (f : Int) = zf) (hm' : (m : Int) = zm) (hw : 1 ≤ wi ∧ wi ≤ 16) (hq : 2 ≤ qu ∧ qu ≤ 32) (hf : 1 ≤ f ∧ f ≤ m ∧ m ≤ 1000) (hT : Te.new wi qu f m = T) :
    Calls Try.prog 7 #[.int .i64 za, .int .i64 zq, .int .i64 zf, .int .i64 zm] w (TieNew w T) := by
  subst ha hq' hf' hm' hT
  exact tie_new wi qu f m w hw hq hf

set_option maxRecDepth 20000 in
set_option maxHeartbeats 32000000 in
theorem law_TieBoth (v0 : List ByteArray) (ao0 : Option Addr) (c0 : Nat) (v1 : List ByteArray) (ao1 : Option Addr) (c1 : Nat) (W : World) (h0 : StrsB W ao0 c0 v0) (h1 : StrsB W ao1 c1 v1) :
    Calls Try.prog 5 #[.slice ao0 v0.length c0, .slice ao1 v1.length c1] W (TiOk W) := by
  obtain ⟨i0, hi0, hz0, hz1, hz2⟩ := info_g Try.infoBs
  obtain ⟨i1, hi1, hy0, hy1, hy2⟩ := info_g Try.infoTs
  have hcv := fun (w : World) (s : ByteArray) => Lib.run_convert_string_bytes (P := Try.prog) w 9 30 5 s Try.underlying9 Try.underlying30 Try.underlying5
  have A0 := Lib.hid h0
  have A1 := Lib.hid h1
  clear h0 h1
  go_enter Try.func5, Try.ntmps5
  go_wp2_with fail
  refine (ti_awake W).mono ?_
  rintro e w0 ⟨rfl, b0⟩
  have B0 := Lib.hid b0
  clear b0
  obtain ⟨n0, hn0⟩ : ∃ x, x = v0.length := ⟨_, rfl⟩
  obtain ⟨n1, hn1⟩ : ∃ x, x = v1.length := ⟨_, rfl⟩
  rw [← hn0, ← hn1]
  have N0 := Lib.hid hn0
  have N1 := Lib.hid hn1
  clear hn0 hn1
  by_cases hb0 : 8 < n0
  · have d1 : decide ((n0 : Int) > 8) = true := decide_eq_true (by omega)
    have d2 : decide (8 < n0) = true := decide_eq_true hb0
    clear hb0
    go_wp2_with fail
    go_ret
    exact ⟨rfl, B0.out⟩
  have d1 : decide ((n0 : Int) > 8) = false := decide_eq_false (by omega)
  have d2 : decide (8 < n0) = false := decide_eq_false hb0
  by_cases hb1 : 8 < n1
  · have d3 : decide ((n1 : Int) > 8) = true := decide_eq_true (by omega)
    have d4 : decide (8 < n1) = true := decide_eq_true hb1
    clear hb0 hb1
    go_wp2_with fail
    go_ret
    exact ⟨rfl, B0.out⟩
  have d3 : decide ((n1 : Int) > 8) = false := decide_eq_false (by omega)
  have d4 : decide (8 < n1) = false := decide_eq_false hb1
  go_wp2_with fail
  refine (tie_newz (T := newB) w0 (wi := 3) (qu := 16) (f := 1) (m := 4) rfl rfl rfl rfl (by decide) (by decide) (by decide) rfl).mono ?_
  rintro e w1 ⟨x, Fx, rfl, hTx, hb1'⟩
  have TX := Lib.hid hTx
  have B1 := Lib.hid hb1'
  clear hTx hb1' d1 d2 d3 d4
  go_wp2_with fail
  refine (tie_newz (T := newB) w1 (wi := 3) (qu := 16) (f := 1) (m := 4) rfl rfl rfl rfl (by decide) (by decide) (by decide) rfl).mono ?_
  rintro e w2 ⟨y, Fy, rfl, hTy, hb2'⟩
  have S0 := Lib.hid (st_new B0.out TX.out B1.out hTy hb2').nilF.nilF
  clear hTy hb2' TX B1 B0
  go_wp2_with fail
  go_loopw [9, 11] (fun v9 vi wr => BegRel W x y v0 v9 vi wr) (fun _ vi _ => n0 - (intOf vi).toNat)
  case atStart => exact ⟨0, newB.s, [], [], rfl, Nat.zero_le _, S0.out, rfl, ⟨both_first (by decide) (by decide) (by decide), rfl, rfl, rfl, fun k h1 h2 => absurd h1 (by have : newB.s.last = 0 := rfl; omega), rfl, rfl⟩⟩
  case round =>
    clear S0
    obtain ⟨i, S, M, L, rfl, hi, hS, hL, hBg⟩ := hrel
    rw [← N0.out] at hi
    obtain ⟨a9, k9, rfl, hf9, hm9, -⟩ := (hS.fr (L := L) (List.mem_cons_self ..)).form2
    have S1 := Lib.hid hS
    have HL := Lib.hid hL
    have HB := Lib.hid hBg
    clear hS hL hBg
    by_cases hlt : i < n0
    · have hlt0 : i < v0.length := by rw [← N0.out]; exact hlt
      obtain ⟨ba, fa, rfl, hba, k0⟩ := A0.out.1.at i hlt0
      have y0 : wr.cell? ⟨ba, fa + i, none⟩ = some (.string v0[i]) := (S1.out.be.cell (p := ⟨ba, fa + i, none⟩) hba).trans k0
      have hBp := fun hs => HB.out.push (r := false) hlt0 (by omega) hs
      have hRm : S.room false = true := HB.out.room (by omega)
      have hLen : L.length ≤ 32 := by
        have h1 := congrArg List.length HL.out
        rw [List.length_map, List.length_map, len_M, HB.out.no, HB.out.cnt] at h1
        have h2 := HB.out.both.xy.s.last_le
        simp only [List.length_nil] at h1
        omega
      generalize v0[i] = s0 at *
      clear k0
      obtain ⟨nL, hnL⟩ : ∃ nL, L.length = nL := ⟨_, rfl⟩
      rw [hnL] at hf9 hLen ⊢
      have i0' : (0 : Int) ≤ (i : Int) := by omega
      have i1' : (i : Int) < (n0 : Int) := by omega
      by_cases hs : 50 < s0.size
      · have d1 : decide ((s0.size : Int) > 50) = true := decide_eq_true (by omega)
        have d2 : decide (50 < s0.size) = true := decide_eq_true hs
        clear hBp hRm
        go_wp2_with fail
        go_ret
        exact ⟨rfl, S1.out.be⟩
      · have d1 : decide ((s0.size : Int) > 50) = false := decide_eq_false (by omega)
        have d2 : decide (50 < s0.size) = false := decide_eq_false hs
        have hgo := (goes_pushed (r := false) (s := s0) HB.out.both.xy.s (by omega)).1
        have hla := (HB.out.both.xy.s.pushed (r := false) (s := s0) (by omega)).last_le
        have PU := Lib.hid (st_pushs (r := false) S1.out HB.out.both.xy.s (by omega) (show s0.size ≤ 30000 by omega))
        have hpl : ((⟨S, Dk.new 3⟩ : Te).pushO false s0).length ≤ 500 := by
          show ((numd S.last (S.pushI false s0)).map wireD).length ≤ 500
          rw [numd_map]
          omega
        rw [show (⟨S, Dk.new 3⟩ : Te).s.room false = true from hRm] at PU
        have hBq : Beg v0 (i + 1) (i + 1) (S.pushed false s0) newB.s (M ++ dMs (numd S.last (S.pushI false s0))) [] := (hBp (by omega)).resolve_right (by rw [hRm]; exact fun h => by cases h)
        have HQ := Lib.hid hBq
        have hpo : ((⟨S, Dk.new 3⟩ : Te).pushO false s0) = (dMs (numd S.last (S.pushI false s0))).map wireM := by rw [wire_dMs]; rfl
        have PO := Lib.hid hpo
        obtain ⟨mo, hmo⟩ : ∃ mo, ((⟨S, Dk.new 3⟩ : Te).pushO false s0).length = mo := ⟨_, rfl⟩
        rw [hmo] at PU hpl
        have NL := Lib.hid hnL
        clear hBp hRm hgo hla hBq hpo HB hnL hmo
        go_wp2_with (first
          | (go_at_call 9; refine PU.out.mono ?_
             rintro e w5 ⟨a5, c5, L5, rfl, hL5, hS5⟩
             have S5 := Lib.hid hS5
             have HL5 := Lib.hid hL5
             obtain ⟨g1, g2, g3, -⟩ := hS5.gv (ao := a5) (cap := c5) (L := L5) (List.mem_cons_self ..)
             have G1 := Lib.hid g1
             have OW := Lib.hid (NL.out ▸ hS5.fr (v := .slice a9 nL k9) (L := L) (by rw [NL.out]; simp))
             have NW := Lib.hid hS5.nle
             clear hL5 hS5)
          | (at_builtin; refine wpList_append_off rfl (.tmp 90) (.tmp 91) 27 rfl i0 _ 24 Try.underlying27 hi0 hz0 hz1 hz2 rfl rfl OW.out a5 mo c5 (L5.map bdV) rfl (by rw [List.length_map]; exact G1.out) g2 g3 (one_bdV L5) (by unfold maxLen; omega) (by omega) NW.out ?_
             intro v6 w6 hown6 hgr6 hat6
             obtain ⟨a6, k6, rfl, -⟩ := hown6.form2
             have S6 := Lib.hid ((NL.out ▸ S5.out).appF (P := []) (Q := [frO (.slice none 0 0) []]) (v := .slice a9 nL k9) (L := L) (List.mem_cons_self ..) G1.out (by rw [NL.out]; exact hown6) hgr6 hat6)
             clear hown6 hgr6 hat6))
        go_roundw
        case rel => exact ⟨i + 1, S.pushed false s0, _, L ++ L5, by go_num, by omega, S6.out.noG, by rw [List.map_append, List.map_append, HL.out, HL5.out, PO.out], HQ.out⟩
        case measure => simp only [intOf]; omega
    · obtain rfl : i = n0 := by omega
      have d1 : decide ((i : Int) < (i : Int)) = false := decide_eq_false (by omega)
      have HN := N0.out
      subst HN
      have B2 := Lib.hid (show Beg v0 v0.length (8 + 0) S newB.s M [] from {HB.out with both := HB.out.both.more (by omega) (by omega)})
      clear HB
      go_wp2_with fail

      go_loopw [10, 14] (fun v10 vi wr => BegRel2 W x y v0 v1 (.slice a9 L.length k9) v10 vi wr) (fun _ vi _ => n1 - (intOf vi).toNat)
      case atStart => exact ⟨0, S, M, L, newB.s, [], [], rfl, Nat.zero_le _, S1.out, HL.out, rfl, B2.out, ⟨B2.out.both.swap, rfl, rfl, rfl, fun k h1 h2 => absurd h1 (by have : newB.s.last = 0 := rfl; omega), rfl, rfl⟩⟩
      case round =>
        clear S1 HL B2 N0 hi hlt hf9 hm9 d1
        clear S M
        obtain ⟨i, SX, MX, LX, S, M, L', rfl, hi, hS, hLX, hL, hBX, hBg⟩ := hrel
        rw [← N1.out] at hi
        obtain ⟨a10, k10, rfl, hf10, hm10, -⟩ := (hS.fr (L := L') (List.mem_cons_of_mem _ (List.mem_cons_self ..))).form2
        have S1 := Lib.hid hS
        have HLX := Lib.hid hLX
        have HL := Lib.hid hL
        have HBX := Lib.hid hBX
        have HB := Lib.hid hBg
        clear hS hL hBg hLX hBX
        by_cases hlt : i < n1
        · have hlt0 : i < v1.length := by rw [← N1.out]; exact hlt
          obtain ⟨ba, fa, rfl, hba, k0⟩ := A1.out.1.at i hlt0
          have y0 : wr.cell? ⟨ba, fa + i, none⟩ = some (.string v1[i]) := (S1.out.be.cell (p := ⟨ba, fa + i, none⟩) hba).trans k0
          have hBp := fun hs => HB.out.push (r := true) hlt0 (by omega) hs
          have hRm : S.room true = true := HB.out.room (by omega)
          have hLen : L'.length ≤ 32 := by
            have h1 := congrArg List.length HL.out
            rw [List.length_map, List.length_map, len_M, HB.out.no, HB.out.cnt] at h1
            have h2 := HB.out.both.xy.s.last_le
            simp only [List.length_nil] at h1
            omega
          generalize v1[i] = s0 at *
          clear k0
          obtain ⟨nL, hnL⟩ : ∃ nL, L'.length = nL := ⟨_, rfl⟩
          rw [hnL] at hf10 hLen ⊢
          have i0' : (0 : Int) ≤ (i : Int) := by omega
          have i1' : (i : Int) < (n1 : Int) := by omega
          by_cases hs : 50 < s0.size
          · have d1 : decide ((s0.size : Int) > 50) = true := decide_eq_true (by omega)
            have d2 : decide (50 < s0.size) = true := decide_eq_true hs
            clear hBp hRm
            go_wp2_with fail
            go_ret
            exact ⟨rfl, S1.out.be⟩
          · have d1 : decide ((s0.size : Int) > 50) = false := decide_eq_false (by omega)
            have d2 : decide (50 < s0.size) = false := decide_eq_false hs
            have hgo := (goes_pushed (r := true) (s := s0) HB.out.both.xy.s (by omega)).1
            have hla := (HB.out.both.xy.s.pushed (r := true) (s := s0) (by omega)).last_le
            have PU := Lib.hid (st_pushs (r := true) S1.out.swap HB.out.both.xy.s (by omega) (show s0.size ≤ 30000 by omega))
            have hpl : ((⟨S, Dk.new 3⟩ : Te).pushO true s0).length ≤ 500 := by
              show ((numd S.last (S.pushI true s0)).map wireD).length ≤ 500
              rw [numd_map]
              omega
            rw [show (⟨S, Dk.new 3⟩ : Te).s.room true = true from hRm] at PU
            have hBq : Beg v1 (i + 1) (8 + i + 1) (S.pushed true s0) SX (M ++ dMs (numd S.last (S.pushI true s0))) MX := (hBp (by omega)).resolve_right (by rw [hRm]; exact fun h => by cases h)
            have HQ := Lib.hid hBq
            have HQX := Lib.hid (show Beg v0 v0.length (8 + i + 1) SX (S.pushed true s0) MX (M ++ dMs (numd S.last (S.pushI true s0))) from {HBX.out with both := hBq.both.swap})
            have hpo : ((⟨S, Dk.new 3⟩ : Te).pushO true s0) = (dMs (numd S.last (S.pushI true s0))).map wireM := by rw [wire_dMs]; rfl
            have PO := Lib.hid hpo
            obtain ⟨mo, hmo⟩ : ∃ mo, ((⟨S, Dk.new 3⟩ : Te).pushO true s0).length = mo := ⟨_, rfl⟩
            rw [hmo] at PU hpl
            have NL := Lib.hid hnL
            clear hBp hRm hgo hla hBq hpo HB HBX hnL hmo
            go_wp2_with (first
              | (go_at_call 9; refine PU.out.mono ?_
                 rintro e w5 ⟨a5, c5, L5, rfl, hL5, hS5⟩
                 have S5 := Lib.hid hS5
                 have HL5 := Lib.hid hL5
                 obtain ⟨g1, g2, g3, -⟩ := hS5.gv (ao := a5) (cap := c5) (L := L5) (List.mem_cons_self ..)
                 have G1 := Lib.hid g1
                 have OW := Lib.hid (NL.out ▸ hS5.fr (v := .slice a10 nL k10) (L := L') (by rw [NL.out]; simp))
                 have NW := Lib.hid hS5.nle
                 clear hL5 hS5)
              | (at_builtin; refine wpList_append_off rfl (.tmp 117) (.tmp 118) 27 rfl i0 _ 24 Try.underlying27 hi0 hz0 hz1 hz2 rfl rfl OW.out a5 mo c5 (L5.map bdV) rfl (by rw [List.length_map]; exact G1.out) g2 g3 (one_bdV L5) (by unfold maxLen; omega) (by omega) NW.out ?_
                 intro v6 w6 hown6 hgr6 hat6
                 obtain ⟨a6, k6, rfl, -⟩ := hown6.form2
                 have S6 := Lib.hid ((NL.out ▸ S5.out).appF (P := [frO (.slice a9 L.length k9) LX]) (Q := []) (v := .slice a10 nL k10) (L := L') (List.mem_cons_self ..) G1.out (by rw [NL.out]; exact hown6) hgr6 hat6)
                 clear hown6 hgr6 hat6))
            go_roundw
            case rel => exact ⟨i + 1, SX, MX, LX, S.pushed true s0, _, L' ++ L5, by go_num, by omega, S6.out.swap.noG, HLX.out, by rw [List.map_append, List.map_append, HL.out, HL5.out, PO.out], HQX.out, HQ.out⟩
            case measure => simp only [intOf]; omega
        · obtain rfl : i = n1 := by omega
          have d1 : decide ((i : Int) < (i : Int)) = false := decide_eq_false (by omega)
          have HN := N1.out
          subst HN
          have hv0 : v0.length ≤ 8 := by omega
          have hv1 : v1.length ≤ 8 := by omega
          have M0 := Lib.hid (mid_first HBX.out HB.out hv0 hv1)
          have Sm := Lib.hid S1.out.nilS.nilS
          clear HB HBX N1 S1 hi hlt hf10 hm10 hb0 hb1
          go_wp2_with fail
          clear d1

          go_loopw [9, 10, 17, 18, 19] (fun v9 v10 v17 v18 vn wr => MidRel W x y v0 v1 v9 v10 v17 v18 vn wr) (fun _ _ _ _ vn _ => 30 - (intOf vn).toNat)
          case atStart => exact ⟨0, SX, Dk.new 3, S, Dk.new 3, MX, M, [], [], LX, L', rfl, by omega, Sm.out.swap.swap, HLX.out, HL.out, M0.out⟩
          case round =>
            clear Sm M0 HLX HL
            obtain ⟨n, SX, DX, SY, DY, sx, sy, gx, gy, L9, L10, rfl, hn, hS, hL9, hL10, hM⟩ := hrel
            obtain ⟨a9, k9, rfl, -, -, -⟩ := (hS.fr (L := L9) (List.mem_cons_of_mem _ (List.mem_cons_of_mem _ (List.mem_cons_self ..)))).form2
            obtain ⟨a10, k10, rfl, -, -, -⟩ := (hS.fr (L := L10) (List.mem_cons_of_mem _ (List.mem_cons_of_mem _ (List.mem_cons_of_mem _ (List.mem_cons_self ..))))).form2
            obtain ⟨a17, k17, rfl, -, -, -⟩ := (hS.st (ss := gx) (List.mem_cons_self ..)).form2
            obtain ⟨a18, k18, rfl, -, -, -⟩ := (hS.st (ss := gy) (List.mem_cons_of_mem _ (List.mem_cons_self ..))).form2
            have l9 := congrArg List.length hL9
            have l10 := congrArg List.length hL10
            rw [List.length_map, List.length_map] at l9 l10
            have N9 := Lib.hid l9.symm
            have N10 := Lib.hid l10.symm
            have C9 := Lib.hid hM.cnt.1
            have C10 := Lib.hid hM.cnt.2.2.1
            have hle : L9.length ≤ 32 ∧ L10.length ≤ 32 := by
              have h1 := len_M sx
              have h2 := len_M sy
              have h3 := hM.cnt
              omega
            have S1 := Lib.hid hS
            have HM9 := Lib.hid hL9
            have HM10 := Lib.hid hL10
            have HM := Lib.hid hM
            clear hS hL9 hL10 hM l9 l10
            obtain ⟨ns, hns⟩ : ∃ ns, L9.length + L10.length = ns := ⟨_, rfl⟩
            have wn : IntKind.i64.wrap ((L9.length : Int) + (L10.length : Int)) = (ns : Int) := by rw [wrapN (by omega)]; omega
            by_cases hgo : n < 30 ∧ 0 < ns
            · have d1 : decide ((n : Int) < 30) = true := decide_eq_true (by omega)
              have d1' : decide (n < 30) = true := decide_eq_true hgo.1
              have d2 : decide ((ns : Int) > 0) = true := decide_eq_true (by omega)
              have d2' : decide (0 < ns) = true := decide_eq_true hgo.2
              have S4s := Lib.hid (((S1.out.pull (P := [stO (.slice a17 gx.length k17) gx]) (Q := [frO (.slice a9 L9.length k9) L9, frO (.slice a10 L10.length k10) L10])).nilF).sw).swap
              have H4s := Lib.hid (Hrs.none HM.out.both.earsY)
              clear S1
              go_wp2_with fail
              clear d1 d1' d2 d2' wn

              go_loopw [18, 21, 22] (fun vg vo vi wr => HrsRel W y x ⟨SX, DX⟩ SX DX SY DY sx gx [stO (.slice a17 gx.length k17) gx, frO (.slice a9 L9.length k9) L9, frO (.slice a10 L10.length k10) L10] vg vo vi wr) (fun _ _ vi _ => L9.length - (intOf vi).toNat)
              case atStart => exact ⟨0, SY, DY, [], gy, [], rfl, Nat.zero_le _, S4s.out, rfl, H4s.out⟩
              case round =>
                clear S4s H4s
                obtain ⟨i, S3s, D3s, O4x, got, L, rfl, hi, hS, hL, hH⟩ := hrel
                obtain ⟨ag, kg, rfl, -, -, -⟩ := (hS.st (ss := got) (List.mem_cons_self ..)).form2
                obtain ⟨av, kv, rfl, -, -, -⟩ := (hS.fr (L := L) (List.mem_cons_of_mem _ (List.mem_cons_self ..))).form2
                rw [N9.out] at hi
                have S3 := Lib.hid hS
                have HL := Lib.hid hL
                have HH := Lib.hid hH
                have hoL : L.length ≤ 32 := by
                  have h1 := congrArg List.length hL
                  rw [List.length_map, List.length_map] at h1
                  have h2 := (hH.len C9.out).2.2
                  omega
                have hgl := hH.got_len
                clear hS hL hH
                by_cases hlt : i < L9.length
                · have hiM : i < sx.length := by rw [N9.out]; exact hlt
                  obtain ⟨gb, fb, e9, k0, hBd⟩ := S3.out.frAt (ao := a9) (m := L9.length) (cap := k9) (L := L9) (by simp) hlt
                  have hds : L9[i].s = wireM sx[i] := by
                    have h1 := HM9.out
                    have h2 : (L9.map Bd.s)[i]? = (sx.map wireM)[i]? := by rw [h1]
                    rw [List.getElem?_map, List.getElem?_map, List.getElem?_eq_getElem hlt, List.getElem?_eq_getElem hiM] at h2
                    exact Option.some.inj h2
                  obtain ⟨hok, hsz, S', D', O1, up, q1, q2, q3, hH2, hul⟩ := HH.out.step (d := L9[i]) hiM hds
                  have HE := Lib.hid (st_hear S3.out HH.out.e.t.net.s (by omega) HH.out.e.h.net.d (by omega) hBd hsz)
                  rw [hok, q1, q2, q3, show (if true = true then (0 : Int) else 2) = 0 from rfl] at HE
                  unfold bdV at HE
                  have HH2 := Lib.hid hH2
                  have hoL2 : O1.length ≤ 32 := by
                    have h2 := (hH2.len C9.out).2.2
                    rw [List.length_append] at h2
                    omega
                  obtain ⟨nd, hnd⟩ : ∃ nd, (O1.map wireM).length = nd := ⟨_, rfl⟩
                  have hnd2 : nd ≤ 32 := by rw [← hnd, List.length_map]; exact hoL2
                  rw [hnd] at HE
                  obtain ⟨nu, hnu⟩ : ∃ nu, up.length = nu := ⟨_, rfl⟩
                  rw [hnu] at HE
                  have NU := Lib.hid hnu
                  rw [hnu] at hul
                  have i0' : (0 : Int) ≤ (i : Int) := by omega
                  have i1' : (i : Int) < ((L9.length : Nat) : Int) := by omega
                  obtain ⟨dd, hdd⟩ : ∃ dd, L9[i] = dd := ⟨_, rfl⟩
                  rw [hdd] at HE k0
                  have GB := Lib.hid e9
                  rw [e9]
                  clear hds hok hsz q1 q2 q3 hH2 hnd hnu HH hBd hiM hdd e9
                  go_wp2_with (go_at_call 8; refine HE.out.mono ?_
                               rintro e w5 ⟨au, cu, Lu, ad, cd, Ld, rfl, hLu, hLd, hS5⟩
                               have S5 := Lib.hid hS5
                               have HLU := Lib.hid hLu
                               have HLD := Lib.hid hLd
                               clear hLu hLd hS5)
                  clear k0 HE
                  go_loopw [18, 26] (fun vg vk wr => UpsRel W y x ⟨S', D'⟩ ⟨SX, DX⟩ [(.slice au nu cu, Lu), (.slice ad nd cd, Ld)] ([frO (.slice av L.length kv) L] ++ [stO (.slice a17 gx.length k17) gx, frO (.slice a9 L9.length k9) L9, frO (.slice a10 L10.length k10) L10]) got up vg vk wr) (fun _ vk _ => nu - (intOf vk).toNat)
                  case atStart => exact ⟨0, rfl, Nat.zero_le _, by rw [List.take_zero, List.append_nil]; exact S5.out⟩
                  case round =>
                    clear S3 S5
                    obtain ⟨k, rfl, hk, hS⟩ := hrel
                    rw [NU.out] at hk
                    obtain ⟨ag2, kg2, rfl, -, -, -⟩ := (hS.st (ss := got ++ up.take k) (List.mem_cons_self ..)).form2
                    have S6 := Lib.hid hS
                    clear hS
                    have hgk : (got ++ up.take k).length ≤ 16 := by rw [List.length_append, List.length_take, NU.out]; omega
                    obtain ⟨ng, hng⟩ : ∃ ng, (got ++ up.take k).length = ng := ⟨_, rfl⟩
                    have NG := Lib.hid hng
                    rw [hng] at hgk
                    have S7 := Lib.hid S6.out
                    rw [hng] at S7
                    by_cases hkl : k < nu
                    · obtain ⟨g1, -, -, g4⟩ := S6.out.gv (ao := au) (cap := cu) (L := Lu) (List.mem_cons_self ..)
                      have hkU : k < Lu.length := by rw [g1]; exact hkl
                      have hku : k < up.length := by rw [NU.out]; exact hkl
                      obtain ⟨gu, fu, rfl, y0, hBu⟩ := g4 k hkU
                      have hsu : Lu[k].s = up[k] := by
                        have h1 := HLU.out
                        subst h1
                        rw [List.getElem_map]
                      have TK := Lib.hid (show up.take k ++ [Lu[k].s] = up.take (k + 1) by rw [hsu, List.take_succ_eq_append_getElem hku])
                      have cv : (convert 30 9 (.slice Lu[k].a Lu[k].s.size Lu[k].c)).run Try.prog wr = .ok (.string Lu[k].s) wr := by
                        have := conv_any hBu.1 (bsN_len Lu[k].s)
                        rw [strB_bsN] at this
                        exact this
                      generalize Lu[k] = du at *
                      have OW := Lib.hid ((S7.out.below ((Below.refl _ _).alloc (Nat.le_refl _) (.cells #[.string du.s] 9))).st (ss := got ++ up.take k) (List.mem_cons_self ..))
                      rw [hng] at OW
                      have NW := Lib.hid S6.out.nle
                      have i2' : (0 : Int) ≤ (k : Int) := by omega
                      have i3' : (k : Int) < (nu : Int) := by omega
                      rw [hng]
                      clear g1 g4 hkU hku hBu hsu hng
                      go_wp2_with (at_builtin; refine wpList_append_off rfl (.tmp 156) (.tmp 162) 37 rfl i1 _ 16 Try.underlying37 hi1 hy0 hy1 hy2 rfl rfl OW.out (some ⟨wr.heap.size, 0, none⟩) 1 1 [.string du.s] rfl rfl (fun e => by cases e) (fun ad e => by cases e; exact World.news_of_block (heap_alloc_new _ _)) (by simp [Value.oneCell']) (by unfold maxLen; omega) (by omega) (by have := NW.out; simp; omega) ?_
                                   intro v8 w8 hown8 hgr8 hat8
                                   obtain ⟨a8, k8, rfl, -⟩ := hown8.form2
                                   have S8 := Lib.hid ((S7.out.below ((Below.refl _ _).alloc (Nat.le_refl _) (.cells #[.string du.s] 9))).appS (P := []) (s := du.s) (by rw [NG.out]; exact hown8) hgr8 hat8)
                                   clear hown8 hgr8 hat8)
                      go_roundw
                      case rel => exact ⟨k + 1, by go_num, by rw [NU.out]; omega, by rw [← TK.out, ← List.append_assoc]; exact S8.out⟩
                      case measure => simp only [intOf]; omega
                    · obtain rfl : k = nu := by omega
                      have d1 : decide ((k : Int) < (k : Int)) = false := decide_eq_false (by omega)
                      obtain ⟨g1, g2, g3, -⟩ := S6.out.gv (ao := ad) (cap := cd) (L := Ld) (List.mem_cons_of_mem _ (List.mem_cons_self ..))
                      have G1 := Lib.hid g1
                      obtain ⟨nL, hnL⟩ : ∃ nL, L.length = nL := ⟨_, rfl⟩
                      have NL := Lib.hid hnL
                      have S9 := Lib.hid S7.out
                      rw [hnL] at S9
                      have OW := Lib.hid (S9.out.fr (v := .slice av nL kv) (L := L) (List.mem_cons_of_mem _ (List.mem_cons_self ..)))
                      rw [hnL] at OW
                      have NW := Lib.hid S6.out.nle
                      rw [hng, hnL]
                      rw [hnL] at hoL
                      have UT := Lib.hid (show up.take k = up by rw [← NU.out, List.take_length])
                      clear g1 hng hnL
                      go_wp2_with (at_builtin; refine wpList_append_off rfl (.tmp 164) (.tmp 165) 27 rfl i0 _ 24 Try.underlying27 hi0 hz0 hz1 hz2 rfl rfl OW.out ad nd cd (Ld.map bdV) rfl (by rw [List.length_map]; exact G1.out) g2 g3 (one_bdV Ld) (by unfold maxLen; omega) (by omega) NW.out ?_
                                   intro v6 w6 hown6 hgr6 hat6
                                   obtain ⟨a6, k6, rfl, -⟩ := hown6.form2
                                   have S8 := Lib.hid (S9.out.appF (P := [stO (.slice ag2 ng kg2) (got ++ up.take k)]) (Q := [stO (.slice a17 gx.length k17) gx, frO (.slice a9 L9.length k9) L9, frO (.slice a10 L10.length k10) L10]) (v := .slice av nL kv) (L := L) (List.mem_cons_of_mem _ (List.mem_cons_self ..)) G1.out (by rw [NL.out]; exact hown6) hgr6 hat6)
                                   clear hown6 hgr6 hat6)
                      go_roundw
                      case rel => rw [← GB.out]; exact ⟨i + 1, S', D', O4x ++ O1, got ++ up, L ++ Ld, by go_num, by rw [N9.out]; omega, by have := S8.out.noG; rw [UT.out] at this; exact this, by rw [List.map_append, List.map_append, HL.out, HLD.out], HH2.out⟩
                      case measure => simp only [intOf]; omega
                · obtain rfl : i = L9.length := by omega
                  have dx : decide (((L9.length : Nat) : Int) < ((L9.length : Nat) : Int)) = false := decide_eq_false (by omega)
                  have HY := Lib.hid HH.out
                  have S6s := Lib.hid (((((S3.out.swap.drop (P := [stO (.slice ag got.length kg) got, frO (.slice av L.length kv) L, stO (.slice a17 gx.length k17) gx]) (Q := [frO (.slice a10 L10.length k10) L10])).pull (P := [stO (.slice ag got.length kg) got, frO (.slice av L.length kv) L]) (Q := [frO (.slice a10 L10.length k10) L10])).nilF).sw))
                  have H6s := Lib.hid (Hrs.none (HM.out.both.earsX (by have := HH.out.e; rw [← N9.out, List.take_length] at this; exact this)))
                  clear HH S3
                  go_wp2_with fail
                  clear dx
                  go_loopw [17, 20, 27] (fun vg vo vi wr => HrsRel W x y ⟨S3s, D3s⟩ SY D3s SX DX sy got [stO (.slice ag got.length kg) got, frO (.slice av L.length kv) L, frO (.slice a10 L10.length k10) L10] vg vo vi wr) (fun _ _ vi _ => L10.length - (intOf vi).toNat)
                  case atStart => exact ⟨0, SX, DX, [], gx, [], rfl, Nat.zero_le _, S6s.out, rfl, H6s.out⟩
                  case round =>
                    clear S6s H6s
                    obtain ⟨i, S6x, D6x, O6x, got6, L6, rfl, hi, hS, hL, hH⟩ := hrel
                    obtain ⟨ag6, kg6, rfl, -, -, -⟩ := (hS.st (ss := got6) (List.mem_cons_self ..)).form2
                    obtain ⟨av6, kv6, rfl, -, -, -⟩ := (hS.fr (L := L6) (List.mem_cons_of_mem _ (List.mem_cons_self ..))).form2
                    rw [N10.out] at hi
                    have T3 := Lib.hid hS
                    have HL6 := Lib.hid hL
                    have HH6 := Lib.hid hH
                    have hoL : L6.length ≤ 32 := by
                      have h1 := congrArg List.length hL
                      rw [List.length_map, List.length_map] at h1
                      have h2 := (hH.len C10.out).2.2
                      omega
                    have hgl := hH.got_len
                    clear hS hL hH
                    by_cases hlt : i < L10.length
                    · have hiM : i < sy.length := by rw [N10.out]; exact hlt
                      obtain ⟨gb, fb, e9, k0, hBd⟩ := T3.out.frAt (ao := a10) (m := L10.length) (cap := k10) (L := L10) (by simp) hlt
                      have hds : L10[i].s = wireM sy[i] := by
                        have h1 := HM10.out
                        have h2 : (L10.map Bd.s)[i]? = (sy.map wireM)[i]? := by rw [h1]
                        rw [List.getElem?_map, List.getElem?_map, List.getElem?_eq_getElem hlt, List.getElem?_eq_getElem hiM] at h2
                        exact Option.some.inj h2
                      obtain ⟨hok, hsz, S', D', O1, up, q1, q2, q3, hH2, hul⟩ := HH6.out.step (d := L10[i]) hiM hds
                      have HE := Lib.hid (st_hear T3.out HH6.out.e.t.net.s (by omega) HH6.out.e.h.net.d (by omega) hBd hsz)
                      rw [hok, q1, q2, q3, show (if true = true then (0 : Int) else 2) = 0 from rfl] at HE
                      unfold bdV at HE
                      have HH2 := Lib.hid hH2
                      have hoL2 : O1.length ≤ 32 := by
                        have h2 := (hH2.len C10.out).2.2
                        rw [List.length_append] at h2
                        omega
                      obtain ⟨nd, hnd⟩ : ∃ nd, (O1.map wireM).length = nd := ⟨_, rfl⟩
                      have hnd2 : nd ≤ 32 := by rw [← hnd, List.length_map]; exact hoL2
                      rw [hnd] at HE
                      obtain ⟨nu, hnu⟩ : ∃ nu, up.length = nu := ⟨_, rfl⟩
                      rw [hnu] at HE
                      have NU := Lib.hid hnu
                      rw [hnu] at hul
                      have i0' : (0 : Int) ≤ (i : Int) := by omega
                      have i1' : (i : Int) < ((L10.length : Nat) : Int) := by omega
                      obtain ⟨dd, hdd⟩ : ∃ dd, L10[i] = dd := ⟨_, rfl⟩
                      rw [hdd] at HE k0
                      have GB := Lib.hid e9
                      rw [e9]
                      clear hds hok hsz q1 q2 q3 hH2 hnd hnu HH6 hBd hiM hdd e9
                      go_wp2_with (go_at_call 8; refine HE.out.mono ?_
                                   rintro e w5 ⟨au, cu, Lu, ad, cd, Ld, rfl, hLu, hLd, hS5⟩
                                   have S5 := Lib.hid hS5
                                   have HLU := Lib.hid hLu
                                   have HLD := Lib.hid hLd
                                   clear hLu hLd hS5)
                      clear k0 HE
                      go_loopw [17, 31] (fun vg vk wr => UpsRel W x y ⟨S', D'⟩ ⟨S3s, D3s⟩ [(.slice au nu cu, Lu), (.slice ad nd cd, Ld)] ([frO (.slice av6 L6.length kv6) L6] ++ [stO (.slice ag got.length kg) got, frO (.slice av L.length kv) L, frO (.slice a10 L10.length k10) L10]) got6 up vg vk wr) (fun _ vk _ => nu - (intOf vk).toNat)
                      case atStart => exact ⟨0, rfl, Nat.zero_le _, by rw [List.take_zero, List.append_nil]; exact S5.out⟩
                      case round =>
                        clear T3 S5
                        obtain ⟨k, rfl, hk, hS⟩ := hrel
                        rw [NU.out] at hk
                        obtain ⟨ag2, kg2, rfl, -, -, -⟩ := (hS.st (ss := got6 ++ up.take k) (List.mem_cons_self ..)).form2
                        have S6 := Lib.hid hS
                        clear hS
                        have hgk : (got6 ++ up.take k).length ≤ 16 := by rw [List.length_append, List.length_take, NU.out]; omega
                        obtain ⟨ng, hng⟩ : ∃ ng, (got6 ++ up.take k).length = ng := ⟨_, rfl⟩
                        have NG := Lib.hid hng
                        rw [hng] at hgk
                        have S7 := Lib.hid S6.out
                        rw [hng] at S7
                        by_cases hkl : k < nu
                        · obtain ⟨g1, -, -, g4⟩ := S6.out.gv (ao := au) (cap := cu) (L := Lu) (List.mem_cons_self ..)
                          have hkU : k < Lu.length := by rw [g1]; exact hkl
                          have hku : k < up.length := by rw [NU.out]; exact hkl
                          obtain ⟨gu, fu, rfl, y0, hBu⟩ := g4 k hkU
                          have hsu : Lu[k].s = up[k] := by
                            have h1 := HLU.out
                            subst h1
                            rw [List.getElem_map]
                          have TK := Lib.hid (show up.take k ++ [Lu[k].s] = up.take (k + 1) by rw [hsu, List.take_succ_eq_append_getElem hku])
                          have cv : (convert 30 9 (.slice Lu[k].a Lu[k].s.size Lu[k].c)).run Try.prog wr = .ok (.string Lu[k].s) wr := by
                            have := conv_any hBu.1 (bsN_len Lu[k].s)
                            rw [strB_bsN] at this
                            exact this
                          generalize Lu[k] = du at *
                          have OW := Lib.hid ((S7.out.below ((Below.refl _ _).alloc (Nat.le_refl _) (.cells #[.string du.s] 9))).st (ss := got6 ++ up.take k) (List.mem_cons_self ..))
                          rw [hng] at OW
                          have NW := Lib.hid S6.out.nle
                          have i2' : (0 : Int) ≤ (k : Int) := by omega
                          have i3' : (k : Int) < (nu : Int) := by omega
                          rw [hng]
                          clear g1 g4 hkU hku hBu hsu hng
                          go_wp2_with (at_builtin; refine wpList_append_off rfl (.tmp 191) (.tmp 197) 37 rfl i1 _ 16 Try.underlying37 hi1 hy0 hy1 hy2 rfl rfl OW.out (some ⟨wr.heap.size, 0, none⟩) 1 1 [.string du.s] rfl rfl (fun e => by cases e) (fun ad e => by cases e; exact World.news_of_block (heap_alloc_new _ _)) (by simp [Value.oneCell']) (by unfold maxLen; omega) (by omega) (by have := NW.out; simp; omega) ?_
                                       intro v8 w8 hown8 hgr8 hat8
                                       obtain ⟨a8, k8, rfl, -⟩ := hown8.form2
                                       have S8 := Lib.hid ((S7.out.below ((Below.refl _ _).alloc (Nat.le_refl _) (.cells #[.string du.s] 9))).appS (P := []) (s := du.s) (by rw [NG.out]; exact hown8) hgr8 hat8)
                                       clear hown8 hgr8 hat8)
                          go_roundw
                          case rel => exact ⟨k + 1, by go_num, by rw [NU.out]; omega, by rw [← TK.out, ← List.append_assoc]; exact S8.out⟩
                          case measure => simp only [intOf]; omega
                        · obtain rfl : k = nu := by omega
                          have d1 : decide ((k : Int) < (k : Int)) = false := decide_eq_false (by omega)
                          obtain ⟨g1, g2, g3, -⟩ := S6.out.gv (ao := ad) (cap := cd) (L := Ld) (List.mem_cons_of_mem _ (List.mem_cons_self ..))
                          have G1 := Lib.hid g1
                          obtain ⟨nL, hnL⟩ : ∃ nL, L6.length = nL := ⟨_, rfl⟩
                          have NL := Lib.hid hnL
                          have S9 := Lib.hid S7.out
                          rw [hnL] at S9
                          have OW := Lib.hid (S9.out.fr (v := .slice av6 nL kv6) (L := L6) (List.mem_cons_of_mem _ (List.mem_cons_self ..)))
                          rw [hnL] at OW
                          have NW := Lib.hid S6.out.nle
                          rw [hng, hnL]
                          rw [hnL] at hoL
                          have UT := Lib.hid (show up.take k = up by rw [← NU.out, List.take_length])
                          clear g1 hng hnL
                          go_wp2_with (at_builtin; refine wpList_append_off rfl (.tmp 199) (.tmp 200) 27 rfl i0 _ 24 Try.underlying27 hi0 hz0 hz1 hz2 rfl rfl OW.out ad nd cd (Ld.map bdV) rfl (by rw [List.length_map]; exact G1.out) g2 g3 (one_bdV Ld) (by unfold maxLen; omega) (by omega) NW.out ?_
                                       intro v6 w6 hown6 hgr6 hat6
                                       obtain ⟨a6, k6, rfl, -⟩ := hown6.form2
                                       have S8 := Lib.hid (S9.out.appF (P := [stO (.slice ag2 ng kg2) (got6 ++ up.take k)]) (Q := [stO (.slice ag got.length kg) got, frO (.slice av L.length kv) L, frO (.slice a10 L10.length k10) L10]) (v := .slice av6 nL kv6) (L := L6) (List.mem_cons_of_mem _ (List.mem_cons_self ..)) G1.out (by rw [NL.out]; exact hown6) hgr6 hat6)
                                       clear hown6 hgr6 hat6)
                          go_roundw
                          case rel => rw [← GB.out]; exact ⟨i + 1, S', D', O6x ++ O1, got6 ++ up, L6 ++ Ld, by go_num, by rw [N10.out]; omega, by have := S8.out.noG; rw [UT.out] at this; exact this, by rw [List.map_append, List.map_append, HL6.out, HLD.out], HH2.out⟩
                          case measure => simp only [intOf]; omega
                    · obtain rfl : i = L10.length := by omega
                      have dx : decide (((L10.length : Nat) : Int) < ((L10.length : Nat) : Int)) = false := decide_eq_false (by omega)
                      have HHf := Lib.hid HH6.out
                      have SN := Lib.hid (((T3.out.drop (P := [stO (.slice ag6 got6.length kg6) got6, frO (.slice av6 L6.length kv6) L6, stO (.slice ag got.length kg) got, frO (.slice av L.length kv) L]) (Q := [])).pull (P := [stO (.slice ag6 got6.length kg6) got6, frO (.slice av6 L6.length kv6) L6]) (Q := [frO (.slice av L.length kv) L])).sw)
                      have MNX := Lib.hid (mid_next HM.out hgo.1 (N9.out ▸ HY.out) (N10.out ▸ HH6.out))
                      clear HH6 T3
                      go_wp2_with fail
                      go_roundw
                      case rel => exact ⟨n + 1, _, _, _, _, _, _, _, _, _, _, by go_num, by omega, SN.out, HL6.out, HL.out, MNX.out⟩
                      case measure => simp only [intOf]; omega
            · have hdone : n = 30 ∨ (sx = [] ∧ sy = []) := by
                by_cases h30 : n = 30
                · exact Or.inl h30
                · have h1 := N9.out
                  have h2 := N10.out
                  exact Or.inr ⟨List.eq_nil_of_length_eq_zero (by omega), List.eq_nil_of_length_eq_zero (by omega)⟩
              by_cases h30 : n < 30
              · have d1 : decide ((n : Int) < 30) = true := decide_eq_true (by omega)
                have d1' : decide (n < 30) = true := decide_eq_true h30
                have d2 : decide ((ns : Int) > 0) = false := decide_eq_false (by omega)
                have d2' : decide (0 < ns) = false := decide_eq_false (by omega)
                clear hgo h30 hns hle

                obtain ⟨rx, ry, o1, o2, o3, o4, o5, o6⟩ := mid_done HM.out hdone
                have rx2 := rx.symm
                subst rx2
                have ry2 := ry.symm
                subst ry2
                have OKX := Lib.hid HM.out.both
                have QX := Lib.hid (show decide (SX.out.length = 0 ∧ SX.waits.length = 0 ∧ DX.held.length = 0) = true by rw [o1, o2, o3]; rfl)
                have QY := Lib.hid (show decide (SY.out.length = 0 ∧ SY.waits.length = 0 ∧ DY.held.length = 0) = true by rw [o4, o5, o6]; rfl)
                have ST := Lib.hid (S1.out.drop (P := [stO (.slice a17 v1.length k17) v1, stO (.slice a18 v0.length k18) v0]) (Q := [frO (.slice a10 L10.length k10) L10]))
                clear rx ry o1 o2 o3 o4 o5 o6 HM S1 hdone HM9 HM10 C9 C10 N9 N10 hn
                go_wp2_with fail
                go_loopw [32] (fun vi wr => TailRel W x y ⟨SX, DX⟩ ⟨SY, DY⟩ [stO (.slice a17 v1.length k17) v1, stO (.slice a18 v0.length k18) v0, frO (.slice a10 L10.length k10) L10] v0.length vi wr) (fun vi _ => v0.length - (intOf vi).toNat)
                case atStart => exact ⟨0, rfl, Nat.zero_le _, ST.out⟩
                case round =>
                  clear ST
                  obtain ⟨i, rfl, hi, hS⟩ := hrel
                  have ST := Lib.hid hS
                  clear hS
                  by_cases hlt : i < v0.length
                  · obtain ⟨ba, fa, rfl, hba, k0⟩ := A0.out.1.at i hlt
                    have y0 : wr.cell? ⟨ba, fa + i, none⟩ = some (.string v0[i]) := (ST.out.be.cell (p := ⟨ba, fa + i, none⟩) hba).trans k0
                    obtain ⟨gb, fb, e9, y1⟩ := ST.out.stAt (ao := a18) (m := v0.length) (cap := k18) (ss := v0) (by simp [stO]) hlt
                    have GB := Lib.hid e9
                    rw [e9]
                    have i0' : (0 : Int) ≤ (i : Int) := by omega
                    have i1' : (i : Int) < (v0.length : Int) := by omega
                    generalize v0[i] = s0 at *
                    clear k0 e9
                    go_wp2_with fail
                    go_quiet (fail)
                    go_wp2_with fail
                    rw [← GB.out]
                    go_roundw
                    case rel => exact ⟨i + 1, by go_num, by omega, ST.out.drewN _⟩
                    case measure => simp only [intOf]; omega
                  · obtain rfl : i = v0.length := by omega
                    have dx : decide (((v0.length : Nat) : Int) < ((v0.length : Nat) : Int)) = false := decide_eq_false (by omega)
                    go_wp2_with fail
                    clear dx
                    go_loopw [33] (fun vi wr => TailRel W x y ⟨SX, DX⟩ ⟨SY, DY⟩ [stO (.slice a17 v1.length k17) v1, stO (.slice a18 v0.length k18) v0, frO (.slice a10 L10.length k10) L10] v1.length vi wr) (fun vi _ => v1.length - (intOf vi).toNat)
                    case atStart => exact ⟨0, rfl, Nat.zero_le _, ST.out⟩
                    case round =>
                      clear ST
                      obtain ⟨i, rfl, hi, hS⟩ := hrel
                      have ST := Lib.hid hS
                      clear hS
                      by_cases hlt : i < v1.length
                      · obtain ⟨ba, fa, rfl, hba, k0⟩ := A1.out.1.at i hlt
                        have y0 : wr.cell? ⟨ba, fa + i, none⟩ = some (.string v1[i]) := (ST.out.be.cell (p := ⟨ba, fa + i, none⟩) hba).trans k0
                        obtain ⟨gb, fb, e9, y1⟩ := ST.out.stAt (ao := a17) (m := v1.length) (cap := k17) (ss := v1) (by simp [stO]) hlt
                        have GB := Lib.hid e9
                        rw [e9]
                        have i0' : (0 : Int) ≤ (i : Int) := by omega
                        have i1' : (i : Int) < (v1.length : Int) := by omega
                        generalize v1[i] = s0 at *
                        clear k0 e9
                        go_wp2_with fail
                        go_quiet (fail)
                        go_wp2_with fail
                        rw [← GB.out]
                        go_roundw
                        case rel => exact ⟨i + 1, by go_num, by omega, ST.out.drewN _⟩
                        case measure => simp only [intOf]; omega
                      · obtain rfl : i = v1.length := by omega
                        have dx : decide (((v1.length : Nat) : Int) < ((v1.length : Nat) : Int)) = false := decide_eq_false (by omega)
                        have QU1 := Lib.hid (st_quiet ST.out OKX.out.xy.s (by omega) OKX.out.yx.d QX.out)
                        go_wp2_with fail
                        refine QU1.out.mono ?_
                        rintro e w5 ⟨rfl, hS5⟩
                        have QU2 := Lib.hid (st_quiet hS5.swap OKX.out.yx.s (by omega) OKX.out.xy.d QY.out)
                        clear hS5 dx QU1
                        go_wp2_with fail
                        refine QU2.out.mono ?_
                        rintro e w6 ⟨rfl, hS6⟩
                        have BE := Lib.hid hS6.be
                        clear hS6
                        go_wp2_with fail
                        go_ret
                        exact ⟨rfl, BE.out⟩

              · have d1 : decide ((n : Int) < 30) = false := decide_eq_false (by omega)
                have d1' : decide (n < 30) = false := decide_eq_false h30
                clear hgo h30 hns hle wn

                obtain ⟨rx, ry, o1, o2, o3, o4, o5, o6⟩ := mid_done HM.out hdone
                have rx2 := rx.symm
                subst rx2
                have ry2 := ry.symm
                subst ry2
                have OKX := Lib.hid HM.out.both
                have QX := Lib.hid (show decide (SX.out.length = 0 ∧ SX.waits.length = 0 ∧ DX.held.length = 0) = true by rw [o1, o2, o3]; rfl)
                have QY := Lib.hid (show decide (SY.out.length = 0 ∧ SY.waits.length = 0 ∧ DY.held.length = 0) = true by rw [o4, o5, o6]; rfl)
                have ST := Lib.hid (S1.out.drop (P := [stO (.slice a17 v1.length k17) v1, stO (.slice a18 v0.length k18) v0]) (Q := [frO (.slice a10 L10.length k10) L10]))
                clear rx ry o1 o2 o3 o4 o5 o6 HM S1 hdone HM9 HM10 C9 C10 N9 N10 hn
                go_wp2_with fail
                go_loopw [32] (fun vi wr => TailRel W x y ⟨SX, DX⟩ ⟨SY, DY⟩ [stO (.slice a17 v1.length k17) v1, stO (.slice a18 v0.length k18) v0, frO (.slice a10 L10.length k10) L10] v0.length vi wr) (fun vi _ => v0.length - (intOf vi).toNat)
                case atStart => exact ⟨0, rfl, Nat.zero_le _, ST.out⟩
                case round =>
                  clear ST
                  obtain ⟨i, rfl, hi, hS⟩ := hrel
                  have ST := Lib.hid hS
                  clear hS
                  by_cases hlt : i < v0.length
                  · obtain ⟨ba, fa, rfl, hba, k0⟩ := A0.out.1.at i hlt
                    have y0 : wr.cell? ⟨ba, fa + i, none⟩ = some (.string v0[i]) := (ST.out.be.cell (p := ⟨ba, fa + i, none⟩) hba).trans k0
                    obtain ⟨gb, fb, e9, y1⟩ := ST.out.stAt (ao := a18) (m := v0.length) (cap := k18) (ss := v0) (by simp [stO]) hlt
                    have GB := Lib.hid e9
                    rw [e9]
                    have i0' : (0 : Int) ≤ (i : Int) := by omega
                    have i1' : (i : Int) < (v0.length : Int) := by omega
                    generalize v0[i] = s0 at *
                    clear k0 e9
                    go_wp2_with fail
                    go_quiet (fail)
                    go_wp2_with fail
                    rw [← GB.out]
                    go_roundw
                    case rel => exact ⟨i + 1, by go_num, by omega, ST.out.drewN _⟩
                    case measure => simp only [intOf]; omega
                  · obtain rfl : i = v0.length := by omega
                    have dx : decide (((v0.length : Nat) : Int) < ((v0.length : Nat) : Int)) = false := decide_eq_false (by omega)
                    go_wp2_with fail
                    clear dx
                    go_loopw [33] (fun vi wr => TailRel W x y ⟨SX, DX⟩ ⟨SY, DY⟩ [stO (.slice a17 v1.length k17) v1, stO (.slice a18 v0.length k18) v0, frO (.slice a10 L10.length k10) L10] v1.length vi wr) (fun vi _ => v1.length - (intOf vi).toNat)
                    case atStart => exact ⟨0, rfl, Nat.zero_le _, ST.out⟩
                    case round =>
                      clear ST
                      obtain ⟨i, rfl, hi, hS⟩ := hrel
                      have ST := Lib.hid hS
                      clear hS
                      by_cases hlt : i < v1.length
                      · obtain ⟨ba, fa, rfl, hba, k0⟩ := A1.out.1.at i hlt
                        have y0 : wr.cell? ⟨ba, fa + i, none⟩ = some (.string v1[i]) := (ST.out.be.cell (p := ⟨ba, fa + i, none⟩) hba).trans k0
                        obtain ⟨gb, fb, e9, y1⟩ := ST.out.stAt (ao := a17) (m := v1.length) (cap := k17) (ss := v1) (by simp [stO]) hlt
                        have GB := Lib.hid e9
                        rw [e9]
                        have i0' : (0 : Int) ≤ (i : Int) := by omega
                        have i1' : (i : Int) < (v1.length : Int) := by omega
                        generalize v1[i] = s0 at *
                        clear k0 e9
                        go_wp2_with fail
                        go_quiet (fail)
                        go_wp2_with fail
                        rw [← GB.out]
                        go_roundw
                        case rel => exact ⟨i + 1, by go_num, by omega, ST.out.drewN _⟩
                        case measure => simp only [intOf]; omega
                      · obtain rfl : i = v1.length := by omega
                        have dx : decide (((v1.length : Nat) : Int) < ((v1.length : Nat) : Int)) = false := decide_eq_false (by omega)
                        have QU1 := Lib.hid (st_quiet ST.out OKX.out.xy.s (by omega) OKX.out.yx.d QX.out)
                        go_wp2_with fail
                        refine QU1.out.mono ?_
                        rintro e w5 ⟨rfl, hS5⟩
                        have QU2 := Lib.hid (st_quiet hS5.swap OKX.out.yx.s (by omega) OKX.out.xy.d QY.out)
                        clear hS5 dx QU1
                        go_wp2_with fail
                        refine QU2.out.mono ?_
                        rintro e w6 ⟨rfl, hS6⟩
                        have BE := Lib.hid hS6.be
                        clear hS6
                        go_wp2_with fail
                        go_ret
                        exact ⟨rfl, BE.out⟩

end Go.Proofs.Ytfbojcaedcimcaa

/-
  Texts of this claim, put together.
-/
import Derived.Test.YtopnagjbdjicaaaMaf
import Derived.Test.YtopnagjbdjicaaaCmkm
import Derived.Test.YtopnagjbdjicaaaMae
import Derived.Test.YtopnagjbdjicaaaDrefm

/-
  The document's own squares: copied, one more, put together.
-/
namespace Go.Proofs.Ytopnagjbdjicaaa
open Go.RowKit

/-- A square in memory of the call's own. -/
def NewSq (T : TypeId) (W : World) (m : List (List Nat)) (n : Nat) (e : Ending) (w' : World) : Prop :=
  ∃ s L, e = .returned s ∧ mOf L = m ∧ L.length = n ∧ OwnSq T W.heap.size w' s L ∧ Below W.heap.size W w'

def CopR (W : World) (L : List Rd) (s i : Value) (wr : World) : Prop :=
  ∃ (k : Nat) (M : List Rd), k ≤ L.length ∧ i = .int .i64 (k : Nat) ∧ M.length = k ∧ mOf M = (mOf L).take k ∧ OwnSq 41 W.heap.size wr s M ∧ Below W.heap.size W wr

theorem CopR.next {W wr w1 w2 w3 : World} {L M : List Rd} {s s' : Value} {k : Nat} {a : Option Addr} {c : Nat} {xs : List Nat} (hk : k < L.length) (e : xs = L[k].l) (hl : M.length = k) (hm : mOf M = (mOf L).take k) (hO : OwnSq 41 W.heap.size wr s M) (hb : Below W.heap.size W wr)
    (h1 : Below wr.heap.size wr w1) (hr : w1.ownsRow wr.heap.size 29 1 (.slice a xs.length c) xs.length (xs.map qV)) (hx : ∀ x ∈ xs, x < QM) (h2 : Below w1.heap.size w1 w2)
    (hown : w3.ownsRow W.heap.size 41 1 s' (k + 1) (M.map rdV ++ [.slice a xs.length c])) (hgr : w2.grownBy w3 s.ownBlock) (hat : ∀ j, s'.ownBlock = some j → s.ownBlock = some j ∨ w2.heap.size ≤ j) :
    CopR W L s' (.int .i64 ((k + 1 : Nat) : Int)) w3 := by
  subst hl
  refine ⟨M.length + 1, M ++ [⟨a, c, xs⟩], by omega, rfl, by simp, ?_, hO.push h1 hr hb.size hx h2 hown hgr hat, ?_⟩
  · have : (mOf L).take (M.length + 1) = (mOf L).take M.length ++ [L[M.length].l] := by
      rw [List.take_succ_eq_append_getElem (by rw [mOf_len]; exact hk), mOf_at hk]
    rw [this, ← hm, ← e]
    simp [mOf]
  · have hw := hb.size
    have := h1.size
    have := h2.size
    exact (hb.trans ((h1.mono hw).trans (h2.mono (by omega)))).grown hgr (by omega) (fun j h => (hO.out.lt j h).1)

set_option maxRecDepth 20000 in
set_option maxHeartbeats 8000000 in
theorem copied_any {W : World} {a : Option Addr} {cap n : Nat} {L : List Rd} (h : SqV W a cap L) (hn : L.length = n) (hl : n ≤ 10000) (hl2 : ∀ r ∈ L, r.l.length ≤ 10000) :
    Calls Try.prog 74 #[.slice a n cap] W (NewSq 41 W (mOf L) n) := by
  obtain ⟨i0, hi0, hz0, hz1, hz2⟩ := info_v Try.infoR
  obtain ⟨q0, hq0, hy0, hy1, hy2⟩ := info_q Try.infoQ
  have S := Lib.hid h
  have HN := Lib.hid hn
  have HL := Lib.hid hl2
  have S0 := Lib.hid (show CopR W L (.slice none 0 0) (.int .i64 0) W from ⟨0, [], Nat.zero_le _, rfl, rfl, rfl, OwnSq.nil _, Below.refl _ _⟩)
  have hsz := h.fit
  have hmx := h.out.max
  unfold maxLen at hmx
  rw [hn] at hsz
  clear h hn hl2
  go_enter Try.func74, Try.ntmps74
  go_wp2_with fail
  go_loopw [3, 4] (fun s i wr => CopR W L s i wr) (fun _ i _ => n - (intOf i).toNat)
  case atStart => exact S0.out
  case round =>
    obtain ⟨k, M, hk, rfl, hM, hm, hO, hb⟩ := hrel
    rw [HN.out] at hk
    clear S0
    by_cases hlt : k < n
    · have kl : k < L.length := by rw [HN.out]; exact hlt
      have SB := Lib.hid (S.out.below hb)
      obtain ⟨b, off, rfl, hbW, hcx⟩ := SB.out.at kl
      have j0 : (0 : Int) ≤ (k : Int) := by omega
      have j1 : (k : Int) < (n : Int) := by omega
      have hk8 : k ≤ 10000 := by omega
      have RW := Lib.hid (SB.out.row kl)
      have HX := Lib.hid (HL.out L[k] (List.getElem_mem _))
      have NX := Lib.hid (fun w1 w2 w3 s' a c h1 hr hx h2 hown hgr hat => CopR.next (w1 := w1) (w2 := w2) (w3 := w3) (s' := s') (a := a) (c := c) kl rfl hM hm hO hb h1 hr hx h2 hown hgr hat)
      obtain ⟨sa, sc, rfl⟩ := own_form hO.out
      have E0 := Lib.hid (below_alloc (Below.refl _ wr) (.cells #[] 29))
      have hcx1 : (wr.alloc (.cells #[] 29)).cell? ⟨b, off + k, none⟩ = some (.slice L[k].a L[k].l.length L[k].c) := cell_go hcx E0.out
      have RA := Lib.hid (RW.out.below E0.out)
      have OL := Lib.hid (World.ownsRow_lit (base := wr.heap.size) (e := 29) (size := 1) wr #[] 0 (Nat.le_refl _) (by unfold maxLen; omega) rfl)
      have OO := Lib.hid hO
      have HM := Lib.hid hM
      have SZ := Lib.hid hb.size
      rw [hM] at NX ⊢
      clear hO hb hm hM hbW
      generalize L[k] = x at *
      clear kl
      obtain ⟨xa, xc, xl⟩ := x
      simp only at hcx hcx1 RA HX NX RW
      generalize hxl : xl.length = x1 at *
      have XL := Lib.hid hxl
      clear hxl hcx RW
      have HX' := Lib.hid (show x1 ≤ 10000 from HX.out)
      clear HX
      go_wp2_with (first
        | (at_builtin
           refine wpList_append_at rfl (.tmp 12) (.tmp 16) 41 rfl wr.heap.size 29 q0 (.int .u64 0) 1 8 Try.underlying41 hq0 hy0 hy1 hy2 rfl (by decide) (.slice (some ⟨wr.heap.size, 0, none⟩) 0 0) 0 [] rfl OL.out xa x1 xc (xl.map qV) rfl ?h2 ?h3 ?h4 (ones_q xl) ?h6 ?h7 E0.out.size ?_
           case h2 => rw [List.length_map, XL.out, Nat.mul_one]
           case h3 => intro e; have h0 := RA.out.empty e; rw [XL.out] at h0; exact h0
           case h4 => exact RA.out.news
           case h6 => have := HX'.out; unfold maxLen; omega
           case h7 => have := HX'.out; omega
           intro v2 w2 hown2 hgr2 hat2
           rw [Nat.zero_add, List.nil_append] at hown2
           obtain ⟨va, vc, rfl⟩ := own_form hown2
           have B2 := Lib.hid (E0.out.grown hgr2 E0.out.size (fun k h => (OL.out.lt k h).1))
           have O2 := Lib.hid hown2
           clear hown2 hgr2 hat2)
        | (at_builtin
           refine wpList_append_at rfl (.tmp 11) (.tmp 18) 55 rfl W.heap.size 41 i0 (.slice none 0 0) 1 24 Try.underlying55 hi0 hz0 hz1 hz2 rfl (by decide) (.slice sa k sc) k (M.map rdV) rfl ?h1 _ _ _ [.slice va x1 vc] rfl ?h2 ?h3 ?h4 ?h5 ?h6 ?h7 ?h8 ?_
           case h1 =>
             have h := (OO.out.below (B2.out.trans ((below_alloc (Below.refl _ w2) (.cells #[.slice va x1 vc] 41)).mono B2.out.size))).out
             rw [HM.out] at h
             exact h
           case h2 => rfl
           case h3 => intro e; cases e
           case h4 => exact lit_cell _ _ _
           case h5 => intro u hu; rw [List.mem_singleton.1 hu]; rfl
           case h6 => unfold maxLen; omega
           case h7 => omega
           case h8 => have := SZ.out; have := B2.out.size; simp; omega
           intro v3 w3 hown3 hgr3 hat3
           have R := Lib.hid (NX.out w2 (w2.alloc (.cells #[.slice va x1 vc] 41)) w3 v3 va vc B2.out O2.out RA.out.lt (below_alloc (Below.refl _ w2) _) hown3 hgr3 hat3)
           clear hown3 hgr3 hat3))
      go_roundw
      case rel => exact R.out
      case measure => simp only [intOf]; omega
    · obtain rfl : k = n := by omega
      have dk : decide ((k : Int) < (k : Int)) = false := decide_eq_false (by omega)
      rw [List.take_of_length_le (by rw [mOf_len, HN.out]; exact Nat.le_refl _)] at hm
      obtain ⟨sa, sc, rfl⟩ := own_form hO.out
      rw [hM] at hO ⊢
      have R := Lib.hid (show NewSq 41 W (mOf L) k (.returned (.slice sa k sc)) wr from ⟨_, M, rfl, hm, hM, hO, hb⟩)
      clear hO hb hm
      go_wp2_with fail
      go_ret
      exact R.out

end Go.Proofs.Ytopnagjbdjicaaa

/-
  The document's own squares: one more.
-/
namespace Go.Proofs.Ytopnagjbdjicaaa
open Go.RowKit

def UpR (T : TypeId) (W : World) (m : List (List Nat)) (i to : Nat) (s v : Value) (wr : World) : Prop :=
  ∃ (k : Nat) (L : List Rd), k ≤ m.length ∧ v = .int .i64 (k : Nat) ∧ L.length = m.length ∧ mOf L = m.set i (incL (m.getD i []) to k) ∧ OwnSq T W.heap.size wr s L ∧ Below W.heap.size W wr

theorem UpR.look {T : TypeId} {W wr : World} {m : List (List Nat)} {i to k n : Nat} {s : Value} {L : List Rd} (hn : m.length = n) (hr : ∀ r ∈ m, r.length = n) (hi : i < n) (hk : k < n) (hl : L.length = m.length) (hm : mOf L = m.set i (incL (m.getD i []) to k)) (hO : OwnSq T W.heap.size wr s L) (hb : Below W.heap.size W wr) :
    ∃ gs cap g c v, s = .slice (some ⟨gs, 0, none⟩) n cap ∧ wr.cell? ⟨gs, i, none⟩ = some (.slice (some ⟨g, 0, none⟩) n c) ∧ wr.cell? ⟨g, k, none⟩ = some (.int .u64 ((v : Nat) : Int)) ∧ wr.frozen? ⟨g, k, none⟩ = false ∧ v < 18446744073709551616 ∧
      ((¬ (hasN to (k : Int) = true ∧ v < 18446744073709551615)) → UpR T W m i to s (.int .i64 ((k + 1 : Nat) : Int)) wr) ∧
      ((hasN to (k : Int) = true ∧ v < 18446744073709551615) → UpR T W m i to s (.int .i64 ((k + 1 : Nat) : Int)) (wr.setCell ⟨g, k, none⟩ (.int .u64 ((v + 1 : Nat) : Int)))) := by
  have hiL : i < L.length := by omega
  have him : i < m.length := by omega
  have e1 : m.getD i [] = m[i] := by rw [List.getD, List.getElem?_eq_getElem him]; rfl
  have hrow : m[i].length = n := hr _ (List.getElem_mem _)
  have eL : L[i].l = incL m[i] to k := by
    rw [← mOf_at hiL]
    have : (mOf L)[i]'(by rw [mOf_len]; exact hiL) = (m.set i (incL (m.getD i []) to k))[i]'(by simpa using him) := getElem_congr_coll hm
    rw [this, List.getElem_set_self, e1]
  have hlen : L[i].l.length = n := by rw [eL, incL_length, hrow]
  obtain ⟨gs, cap, es, -, hc⟩ := hO.look hiL
  have hlt : atN m[i] k < 18446744073709551616 := by
    have := atN_lt (show 0 < QM by decide) (hO.lt _ (List.getElem_mem hiL)) k
    rw [eL, incL_same] at this
    exact this
  have hp := fun (v : Nat) (hv : v < QM) => hO.put hiL (j := k) (v := v) (by rw [hlen]; exact hk) hv
  obtain ⟨g, ea, -, hcg, hfz, -⟩ := hp 0 (by decide)
  rw [eL, incL_same] at hcg
  rw [ea, hlen] at hc
  refine ⟨gs, cap, g, L[i].c, atN m[i] k, by rw [es, hl, hn], hc, hcg, hfz, hlt, fun h => ?_, fun h => ?_⟩
  · exact ⟨k + 1, L, by omega, rfl, hl, by rw [hm, e1, incL_no h], hO, hb⟩
  · obtain ⟨g2, ea2, hB, -, -, hO2⟩ := hp (atN m[i] k + 1) (by show _ < 18446744073709551616; omega)
    rw [ea] at ea2
    cases ea2
    refine ⟨k + 1, _, by omega, rfl, by simpa using hl, ?_, hO2, hb.setCell hB _⟩
    have : mOf (L.set i ⟨L[i].a, L[i].c, L[i].l.set k (atN m[i] k + 1)⟩) = (mOf L).set i (L[i].l.set k (atN m[i] k + 1)) := by simp [mOf, List.map_set]
    rw [this, hm, e1, List.set_set, eL, incL_yes (by omega) h.1 h.2]

set_option maxRecDepth 20000 in
set_option maxHeartbeats 8000000 in
theorem rupm_any {W : World} {a : Option Addr} {cap n to : Nat} {L : List Rd} {z i : Int} (h : SqV W a cap L) (hn : L.length = n) (hl : n ≤ 10000) (hl2 : ∀ r ∈ L, r.l.length ≤ 10000) (hto : to < 18446744073709551616) :
    Calls Try.prog 54 #[.int .i64 z, .slice a n cap, .int .i64 i, .int .u64 (to : Int)] W (NewSq 41 W (upM z (mOf L) i to) n) := by
  have C1 := Lib.hid (copied_any h hn hl hl2)
  have S := Lib.hid h
  have HN := Lib.hid hn
  have HT := Lib.hid hto
  clear h hn hto
  go_enter Try.func54, Try.ntmps54
  go_wp2_with fail
  refine C1.out.mono ?_
  rintro e w1 ⟨s, M, rfl, hm, hM, hO, hb⟩
  have SB := Lib.hid (S.out.below hb)
  obtain ⟨sa, sc, rfl⟩ := own_form hO.out
  rw [hM]
  rw [hM] at hO
  obtain ⟨g, hg⟩ : ∃ g, g = goodM z (mOf L) := ⟨_, rfl⟩
  have HG := Lib.hid hg.symm
  clear hg
  go_wp2_with fail
  refine (rgood_any (z := z) SB.out HN.out HG.out).mono ?_
  rintro e w' ⟨rfl, rfl⟩
  cases g
  · have R := Lib.hid (show NewSq 41 W (upM z (mOf L) i to) n (.returned (.slice sa n sc)) w1 from ⟨_, M, rfl, by rw [hm, upM_no (fun h => by rw [HG.out] at h; cases h.1)], hM, hO, hb⟩)
    clear hm hM hO hb
    go_wp2_with fail
    go_ret
    exact R.out
  · by_cases h0 : i < 0
    · have d0 : decide (i < 0) = true := decide_eq_true h0
      have R := Lib.hid (show NewSq 41 W (upM z (mOf L) i to) n (.returned (.slice sa n sc)) w1 from ⟨_, M, rfl, by rw [hm, upM_no (fun h => by omega)], hM, hO, hb⟩)
      clear hm hM hO hb h0
      go_wp2_with fail
      go_ret
      exact R.out
    · have d0 : decide (i < 0) = false := decide_eq_false h0
      by_cases h1 : i ≥ z
      · have d1 : decide (i ≥ z) = true := decide_eq_true h1
        have R := Lib.hid (show NewSq 41 W (upM z (mOf L) i to) n (.returned (.slice sa n sc)) w1 from ⟨_, M, rfl, by rw [hm, upM_no (fun h => by omega)], hM, hO, hb⟩)
        clear hm hM hO hb h0 h1
        go_wp2_with fail
        go_ret
        exact R.out
      · have d1 : decide (i ≥ z) = false := decide_eq_false h1
        obtain ⟨N, rfl, hN1, hN2, hN3, hN4⟩ := goodM_is HG.out
        obtain ⟨p, rfl⟩ : ∃ p : Nat, i = p := ⟨i.toNat, by omega⟩
        have hpN : p < N := by omega
        obtain rfl : N = n := by rw [← hN3, mOf_len, HN.out]
        have q0 : (0 : Int) ≤ (p : Int) := by omega
        have q1 : (p : Int) < (N : Int) := by omega
        have d2 : decide (N ≤ p) = false := decide_eq_false (by omega)
        have HP := Lib.hid hpN
        have H3 := Lib.hid hN3
        have H4 := Lib.hid hN4
        have I0 := Lib.hid (show UpR 41 W (mOf L) p to (.slice sa N sc) (.int .i64 0) w1 from
          ⟨0, M, Nat.zero_le _, rfl, by rw [hM, hN3], by rw [incL_zero, hm, List.getD, List.getElem?_eq_getElem (by rw [hN3]; exact hpN)]; simp, hO, hb⟩)
        have FIN := Lib.hid (upM_yes (to := to) HG.out hpN)
        clear hm hM hO hb h0 h1 hpN hN3 hN4 SB
        go_wp2_with fail
        go_loopw [10] (fun v wr => UpR 41 W (mOf L) p to (.slice sa N sc) v wr) (fun v _ => N - (intOf v).toNat)
        case atStart => exact I0.out
        case round =>
          obtain ⟨k, M2, hk, rfl, hl9, hm9, hO, hb⟩ := hrel
          rw [H3.out] at hk
          clear I0
          by_cases hlt : k < N
          · obtain ⟨gs, cs, g, c, v, e9, k1, k2, f0, hv, hno, hyes⟩ := UpR.look H3.out H4.out HP.out hlt hl9 hm9 hO hb
            simp only [Value.slice.injEq, true_and] at e9
            obtain ⟨rfl, -⟩ := e9
            have IN := Lib.hid (in_any to (k : Int) wr HT.out ⟨by omega, by omega⟩)
            have NO := Lib.hid hno
            have YES := Lib.hid hyes
            clear hno hyes hO hb hl9 hm9 hk
            have j0 : (0 : Int) ≤ (k : Int) := by omega
            have j1 : (k : Int) < (N : Int) := by omega
            generalize hasN to (k : Int) = b at *
            cases b
            · have R := Lib.hid (NO.out (by simp))
              clear NO YES hv
              go_wp2_with fail
              refine IN.out.mono ?_
              rintro e w' ⟨rfl, rfl⟩
              go_wp2_with fail
              go_roundw
              case rel => exact R.out
              case measure => simp only [intOf]; omega
            · by_cases hv2 : v < 18446744073709551615
              · have R := Lib.hid (YES.out ⟨rfl, hv2⟩)
                have e1 : decide ((v : Int) < 18446744073709551615) = true := decide_eq_true (by omega)
                have e2 : decide (v < 18446744073709551615) = true := decide_eq_true hv2
                obtain ⟨v1, hv1⟩ : ∃ v1, v1 = v + 1 := ⟨_, rfl⟩
                have wv : IntKind.u64.wrap ((v : Int) + 1) = (v1 : Int) := by rw [wrapQ (by omega)]; omega
                rw [← hv1] at R
                clear NO YES hv hv2 hv1
                go_wp2_with fail
                refine IN.out.mono ?_
                rintro e w' ⟨rfl, rfl⟩
                go_wp2_with fail
                go_roundw
                case rel => exact R.out
                case measure => simp only [intOf]; omega
              · have R := Lib.hid (NO.out (by simp; omega))
                have e1 : decide ((v : Int) < 18446744073709551615) = false := decide_eq_false (by omega)
                have e2 : decide (v < 18446744073709551615) = false := decide_eq_false hv2
                clear NO YES hv hv2
                go_wp2_with fail
                refine IN.out.mono ?_
                rintro e w' ⟨rfl, rfl⟩
                go_wp2_with fail
                go_roundw
                case rel => exact R.out
                case measure => simp only [intOf]; omega
          · obtain rfl : k = N := by omega
            have dk : decide ((k : Int) < (k : Int)) = false := decide_eq_false (by omega)
            have R := Lib.hid (show NewSq 41 W (upM (k : Int) (mOf L) (p : Int) to) k (.returned (.slice sa k sc)) wr from
              ⟨_, M2, rfl, by rw [FIN.out, hm9], by rw [hl9, H3.out], hO, hb⟩)
            clear hO hb hl9 hm9
            go_wp2_with fail
            go_ret
            exact R.out

end Go.Proofs.Ytopnagjbdjicaaa

/-
  The document's own squares: put together.
-/
namespace Go.Proofs.Ytopnagjbdjicaaa
open Go.RowKit

/-- The first k rows put together. -/
def mixM (a b : List (List Nat)) (k : Nat) : List (List Nat) := (List.range a.length).map fun i => if i < k then joinL (a.getD i []) (b.getD i []) else a.getD i []
theorem mixM_len (a b : List (List Nat)) (k : Nat) : (mixM a b k).length = a.length := by simp [mixM]
theorem mixM_zero (a b : List (List Nat)) : mixM a b 0 = a := List.ext_getElem (by simp [mixM]) fun i h1 h2 => by simp [mixM, List.getD, h2]
theorem mixM_all (a b : List (List Nat)) : mixM a b a.length = joinM a b := by
  refine List.ext_getElem (by simp [mixM, joinM]) fun i h1 h2 => ?_
  have : i < a.length := by simpa [mixM] using h1
  simp [mixM, joinM, this]
theorem mixM_at {a b : List (List Nat)} {k : Nat} (h : k < a.length) : (mixM a b k)[k]'(by rw [mixM_len]; exact h) = a[k] := by simp [mixM, List.getD, h]
theorem mixM_set {a b : List (List Nat)} {k : Nat} (ha : k < a.length) (hb : k < b.length) : (mixM a b k).set k (joinL a[k] b[k]) = mixM a b (k + 1) := by
  refine List.ext_getElem (by simp [mixM]) fun i h1 h2 => ?_
  have hi : i < a.length := by simpa [mixM] using h2
  rw [List.getElem_set]
  by_cases e : k = i
  · subst e
    simp [mixM, List.getD, ha, hb]
  · rw [if_neg e]
    simp only [mixM, List.getElem_map, List.getElem_range]
    by_cases h : i < k
    · rw [if_pos h, if_pos (by omega)]
    · rw [if_neg h, if_neg (by omega)]

def JnR (T : TypeId) (W : World) (A B : List (List Nat)) (s v : Value) (wr : World) : Prop :=
  ∃ (k : Nat) (L : List Rd), k ≤ A.length ∧ v = .int .i64 (k : Nat) ∧ L.length = A.length ∧ mOf L = mixM A B k ∧ OwnSq T W.heap.size wr s L ∧ Below W.heap.size W wr

set_option maxRecDepth 20000 in
set_option maxHeartbeats 8000000 in
theorem rjoinm_any {W : World} {a1 a2 : Option Addr} {c1 c2 n m : Nat} {L M : List Rd} (h1 : SqV W a1 c1 L) (h2 : SqV W a2 c2 M) (hn : L.length = n) (hm : M.length = m) (hnm : n ≤ m) (hl : n ≤ 10000) (hl2 : ∀ r ∈ L, r.l.length ≤ 10000) (hl3 : ∀ r ∈ M, r.l.length ≤ 10000) :
    Calls Try.prog 57 #[.slice a1 n c1, .slice a2 m c2] W (NewSq 41 W (joinM (mOf L) (mOf M)) n) := by
  have C1 := Lib.hid (copied_any h1 hn hl hl2)
  have S := Lib.hid h2
  have HN := Lib.hid hn
  have HM := Lib.hid hm
  have H2 := Lib.hid hl2
  have H3 := Lib.hid hl3
  clear h1 h2 hn hm hl2 hl3
  go_enter Try.func57, Try.ntmps57
  go_wp2_with fail
  refine C1.out.mono ?_
  rintro e w1 ⟨s, K, rfl, hk, hK, hO, hb⟩
  obtain ⟨sa, sc, rfl⟩ := own_form hO.out
  rw [hK]
  rw [hK] at hO
  have I0 := Lib.hid (show JnR 41 W (mOf L) (mOf M) (.slice sa n sc) (.int .i64 0) w1 from ⟨0, K, Nat.zero_le _, rfl, by rw [hK, mOf_len, HN.out], by rw [hk, mixM_zero], hO, hb⟩)
  clear hk hK hO hb C1
  go_wp2_with fail
  go_loopw [6] (fun v wr => JnR 41 W (mOf L) (mOf M) (.slice sa n sc) v wr) (fun v _ => n - (intOf v).toNat)
  case atStart => exact I0.out
  case round =>
    obtain ⟨k, K, hk, rfl, hl9, hm9, hO, hb⟩ := hrel
    clear I0
    rw [mOf_len, HN.out] at hk hl9
    by_cases hlt : k < n
    · have kL : k < L.length := by rw [HN.out]; exact hlt
      have kM : k < M.length := by rw [HM.out]; omega
      have kK : k < K.length := by rw [hl9]; exact hlt
      have eK : K[k].l = L[k].l := by
        rw [← mOf_at kK, ← mOf_at kL]
        have : (mOf K)[k]'(by rw [mOf_len]; exact kK) = (mixM (mOf L) (mOf M) k)[k]'(by rw [mixM_len, mOf_len]; exact kL) := getElem_congr_coll hm9
        rw [this, mixM_at]
      obtain ⟨gs, cs, es, hgB, hc0⟩ := hO.look kK
      rw [hl9] at es
      simp only [Value.slice.injEq, true_and] at es
      obtain ⟨rfl, -⟩ := es
      obtain ⟨b, off, rfl, -, hc1⟩ := (S.out.below hb).at kM
      have R1 : SlAt qV QM wr K[k].a K[k].c K[k].l := by
        obtain ⟨a9, c9, -, hsq, -⟩ := hO.sq
        exact hsq.each _ (List.getElem_mem _)
      have R2 := (S.out.below hb).row kM
      have n1 : K[k].l.length ≤ 10000 := by rw [eK]; exact H2.out _ (List.getElem_mem _)
      have n2 : M[k].l.length ≤ 10000 := H3.out _ (List.getElem_mem _)
      have d0 := drew_below wr
      have CJ := Lib.hid (cl_rjoin (W := wr.drew) (R1.below d0) (R2.below d0) rfl rfl (by omega) (by omega) rfl rfl)
      have FIN := Lib.hid (fun (w2 : World) (a c : _) (h1 : Below wr.drew.heap.size wr.drew w2) (hr : w2.ownsRow wr.drew.heap.size 29 1 (.slice a (joinL K[k].l M[k].l).length c) (joinL K[k].l M[k].l).length ((joinL K[k].l M[k].l).map qV)) =>
        show ∃ c2, w2.cell? ⟨gs, k, none⟩ = some c2 ∧ w2.frozen? ⟨gs, k, none⟩ = false ∧ JnR 41 W (mOf L) (mOf M) (.slice (some ⟨gs, 0, none⟩) n sc) (.int .i64 ((k + 1 : Nat) : Int)) (w2.setCell ⟨gs, k, none⟩ (.slice a (joinL K[k].l M[k].l).length c)) from by
          obtain ⟨g, cap, e1, hg, hc, hf, hO2⟩ := (hO.below d0).setrow (i := k) kK h1 hr hb.size (joinL_lt (by decide) R1.lt R2.lt)
          rw [hl9] at e1
          simp only [Value.slice.injEq, Option.some.injEq, Addr.mk.injEq, and_true, true_and] at e1
          obtain ⟨rfl, -⟩ := e1
          refine ⟨_, hc, hf, k + 1, _, by rw [mOf_len, HN.out]; omega, rfl, by rw [List.length_set, hl9, mOf_len, HN.out], ?_, hO2, ((hb.trans (d0.mono hb.size)).trans (h1.mono hb.size)).setCell hg _⟩
          have : mOf (K.set k ⟨a, c, joinL K[k].l M[k].l⟩) = (mOf K).set k (joinL K[k].l M[k].l) := by simp [mOf, List.map_set]
          rw [this, hm9, eK, ← mOf_at kL, ← mOf_at kM, mixM_set (by rw [mOf_len]; exact kL) (by rw [mOf_len]; exact kM)])
      have c0d : wr.drew.cell? ⟨gs, k, none⟩ = some (.slice K[k].a K[k].l.length K[k].c) := hc0
      have c1d : wr.drew.cell? ⟨b, off + k, none⟩ = some (.slice M[k].a M[k].l.length M[k].c) := hc1
      have j0 : (0 : Int) ≤ (k : Int) := by omega
      have j1 : (k : Int) < (n : Int) := by omega
      have j2 : (k : Int) < (m : Int) := by omega
      have hsm := (S.out).fit
      rw [HM.out] at hsm
      clear eK hO hb R1 R2 n1 n2 d0 hm9 hl9 hk hgB
      generalize joinL K[k].l M[k].l = r at *
      generalize K[k] = x at *
      generalize M[k] = y at *
      obtain ⟨xa, xc, xl⟩ := x
      obtain ⟨ya, yc, yl⟩ := y
      simp only at hc0 hc1 c0d c1d CJ
      clear kL kM kK
      generalize xl.length = x1 at *
      generalize yl.length = y1 at *
      generalize r.length = rl at *
      go_wp2_with fail
      go_region_law (go_simp; go_at_call 77; refine CJ.out.mono ?_; rintro e w3 ⟨a3, c3, rfl, -, hb3, -, ho3⟩; obtain ⟨c9, k1, k2, k3⟩ := FIN.out w3 a3 c3 hb3 ho3; have R := Lib.hid k3; clear hb3 ho3 k3)
      all_goals
        try go_simp
        go_wp2_with fail
        go_roundw
        case rel => exact R.out
        case measure => simp only [intOf]; omega
    · obtain rfl : k = n := by omega
      have dk : decide ((k : Int) < (k : Int)) = false := decide_eq_false (by omega)
      have R := Lib.hid (show NewSq 41 W (joinM (mOf L) (mOf M)) k (.returned (.slice sa k sc)) wr from
        ⟨_, K, rfl, by rw [hm9, ← mixM_all, mOf_len, HN.out], hl9, hO, hb⟩)
      clear hO hb hm9 hl9
      go_wp2_with fail
      go_ret
      exact R.out

end Go.Proofs.Ytopnagjbdjicaaa

/-
  A slice of rows of one's own, the first of which are one's own too: how a square is filled.
-/
namespace Go.Proofs.Ytopnagjbdjicaaa
open Go.RowKit

/-- K: the rows that are one's own; M: those to come. -/
structure ParSq (T : TypeId) (B : Nat) (w : World) (s : Value) (K M : List Rd) : Prop where
  out : w.ownsRow B T 1 s (K.length + M.length) ((K ++ M).map rdV)
  row : ∀ r ∈ K, w.ownsRow B 29 1 (rdV r) r.l.length (r.l.map qV)
  lt : ∀ r ∈ K, ∀ x ∈ r.l, x < QM
  ap : (K.map bkR).Pairwise Unlike
  aw : ∀ r ∈ K, Unlike (bkR r) s.ownBlock

section
variable {T : TypeId} {B : Nat} {w w' : World} {s : Value} {K M : List Rd}

theorem ParSq.start {n : Nat} (h : w.ownsRow B T 1 s n (M.map rdV)) (hn : M.length = n) : ParSq T B w s [] M :=
  ⟨by rw [List.length_nil, Nat.zero_add, hn]; exact h, by simp, by simp, by simp, by simp⟩
theorem ParSq.done (h : ParSq T B w s K []) : OwnSq T B w s K :=
  ⟨by have := h.out; rw [List.length_nil, Nat.add_zero, List.append_nil] at this; exact this, h.row, h.lt, h.ap, h.aw⟩
theorem ParSq.carry (h : ParSq T B w s K M) (h1 : ∀ k, s.ownBlock = some k → w'.heap[k]? = w.heap[k]?) (h2 : ∀ r ∈ K, ∀ k, bkR r = some k → w'.heap[k]? = w.heap[k]?) : ParSq T B w' s K M :=
  ⟨own_carry h.out h1, fun r hr => own_carry (h.row r hr) (h2 r hr), h.lt, h.ap, h.aw⟩
theorem ParSq.below (h : ParSq T B w s K M) (hb : Below w.heap.size w w') : ParSq T B w' s K M :=
  h.carry (fun k e => hb.block k (h.out.lt k e).2) (fun r hr k e => hb.block k ((h.row r hr).lt k e).2)
theorem ParSq.mono (h : ParSq T B w s K M) {B' : Nat} (hB : B' ≤ B) : ParSq T B' w s K M := ⟨own_mono h.out hB, fun r hr => own_mono (h.row r hr) hB, h.lt, h.ap, h.aw⟩
theorem ParSq.form (h : ParSq T B w s K M) : ∃ a cap, s = .slice a (K.length + M.length) cap := own_form h.out
/-- A cell of those to come. -/
theorem ParSq.look {x : Rd} (h : ParSq T B w s K (x :: M)) : ∃ g cap, s = .slice (some ⟨g, 0, none⟩) (K.length + (M.length + 1)) cap ∧ B ≤ g ∧ g < w.heap.size ∧ w.cell? ⟨g, K.length, none⟩ = some (.slice x.a x.l.length x.c) := by
  have ho := h.out
  rw [List.length_cons] at ho
  obtain ⟨g, cap, e, hg1, hg2⟩ := ho.form (by omega)
  rw [e] at ho
  have hc := ho.cellAt K.length (by omega)
  rw [List.getElem?_map, List.getElem?_append_right (Nat.le_refl _), Nat.sub_self, List.getElem?_cons_zero] at hc
  exact ⟨g, cap, e, hg1, (ho.lt g rfl).2, hc⟩
/-- The next row, made meanwhile. -/
theorem ParSq.next {x : Rd} {w1 : World} {a : Option Addr} {c : Nat} {xs : List Nat} (h : ParSq T B w s K (x :: M)) (h1 : Below w.heap.size w w1) (hr : w1.ownsRow w.heap.size 29 1 (.slice a xs.length c) xs.length (xs.map qV)) (hB : B ≤ w.heap.size) (hx : ∀ x ∈ xs, x < QM) :
    ∃ g cap, s = .slice (some ⟨g, 0, none⟩) (K.length + (M.length + 1)) cap ∧ B ≤ g ∧ g < w.heap.size ∧ w1.cell? ⟨g, K.length, none⟩ = some (rdV x) ∧ w1.frozen? ⟨g, K.length, none⟩ = false ∧
      ParSq T B (w1.setCell ⟨g, K.length, none⟩ (.slice a xs.length c)) s (K ++ [⟨a, c, xs⟩]) M := by
  have ho := (h.below h1).out
  rw [List.length_cons] at ho
  have ho0 := h.out
  rw [List.length_cons] at ho0
  obtain ⟨g, cap, e, hg1, hg2⟩ := ho0.form (by omega)
  rw [e] at ho
  have hg3 := (h.out.lt g (by rw [e]; rfl)).2
  have hc := ho.cellAt K.length (by omega)
  rw [List.getElem?_map, List.getElem?_append_right (Nat.le_refl _), Nat.sub_self, List.getElem?_cons_zero] at hc
  have hst := (ho.stored K.length (.slice a xs.length c)).1
  have oth : ∀ k, k ≠ g → (w1.setCell ⟨g, K.length, none⟩ (.slice a xs.length c)).heap[k]? = w1.heap[k]? := fun k hk => Below.heap_setCell _ _ _ _ hk
  have sb : s.ownBlock = some g := by rw [e]; rfl
  have new : ∀ k, (Value.slice a xs.length c).ownBlock = some k → w.heap.size ≤ k ∧ k < w1.heap.size := fun k e => hr.lt k e
  have old : ∀ r ∈ K, ∀ k, bkR r = some k → k < w.heap.size := fun r hr k e => ((h.row r hr).lt k e).2
  have hset : ((K ++ x :: M).map rdV).set K.length (.slice a xs.length c) = (K ++ [(⟨a, c, xs⟩ : Rd)] ++ M).map rdV := by
    simp [rdV]
  rw [hset] at hst
  refine ⟨g, cap, e, hg1, hg3, hc, ho.frozenAt K.length, ?_, ?_, ?_, ?_, ?_⟩
  · rw [e]
    have : (K ++ [(⟨a, c, xs⟩ : Rd)]).length + M.length = K.length + (M.length + 1) := by simp; omega
    rw [this]
    exact hst
  · intro r hr'
    rcases List.mem_append.1 hr' with hr' | hr'
    · exact own_carry ((h.below h1).row r hr') fun k e2 => oth k (fun e3 => h.aw r hr' k e2 (by rw [sb, e3]))
    · rw [List.mem_singleton.1 hr']
      exact own_mono (own_carry hr fun k e2 => oth k (fun e3 => by have := new k e2; omega)) hB
  · intro r hr'
    rcases List.mem_append.1 hr' with hr' | hr'
    · exact h.lt r hr'
    · rw [List.mem_singleton.1 hr']; exact hx
  · rw [List.map_append, List.pairwise_append]
    refine ⟨h.ap, by simp, fun y hy z hz => ?_⟩
    obtain ⟨r, hr', rfl⟩ := List.mem_map.1 hy
    obtain ⟨q, hq, rfl⟩ := List.mem_map.1 hz
    rw [List.mem_singleton.1 hq]
    intro k e1 e2
    have := old r hr' k e1
    have := new k e2
    omega
  · intro r hr'
    rcases List.mem_append.1 hr' with hr' | hr'
    · exact h.aw r hr'
    · rw [List.mem_singleton.1 hr']
      intro k e1 e2
      have := new k e1
      rw [sb] at e2
      cases e2
      omega

/-- A block that none of it lies in. -/
def OffP (p : Nat) (s : Value) (K : List Rd) : Prop := s.ownBlock ≠ some p ∧ ∀ r ∈ K, bkR r ≠ some p
theorem ParSq.off (h : ParSq T B w s K M) {p : Nat} (hp : p < B ∨ w.heap.size ≤ p) : OffP p s K :=
  ⟨fun e => by have := h.out.lt p e; omega, fun r hr e => by have := (h.row r hr).lt p e; omega⟩
theorem OwnSq.off {L : List Rd} (h : OwnSq T B w s L) {p : Nat} (hp : p < B ∨ w.heap.size ≤ p) : OffP p s L :=
  ⟨fun e => by have := h.out.lt p e; omega, fun r hr e => by have := (h.row r hr).lt p e; omega⟩
theorem OffP.more {p : Nat} (h : OffP p s K) {w1 : World} {N : Nat} {a : Option Addr} {c : Nat} {xs : List Nat} (hr : w1.ownsRow N 29 1 (.slice a xs.length c) xs.length (xs.map qV)) (hp : p < N) : OffP p s (K ++ [⟨a, c, xs⟩]) :=
  ⟨h.1, fun r hr' => by
    rcases List.mem_append.1 hr' with hr' | hr'
    · exact h.2 r hr'
    · rw [List.mem_singleton.1 hr']
      intro e
      have := hr.lt p e
      omega⟩
theorem OwnSq.put_off {L : List Rd} (h : OwnSq T B w s L) {p : Nat} (ho : OffP p s L) (i : Nat) (v : Value) : OwnSq T B (w.setCell ⟨p, i, none⟩ v) s L :=
  h.carry (fun k e => Below.heap_setCell _ _ _ _ (fun e2 => ho.1 (by rw [e]; exact congrArg some e2))) (fun r hr k e => Below.heap_setCell _ _ _ _ (fun e2 => ho.2 r hr (by rw [e]; exact congrArg some e2)))
end
/-- Rows made by make. -/
theorem madeV (n : Nat) : madeCells #[Value.slice none 0 0] n = ((List.replicate n (⟨none, 0, []⟩ : Rd)).map rdV).toArray := by
  refine Array.ext (by simp [size_madeCells]) fun i h1 h2 => ?_
  simp [madeCells, rdV, Nat.mod_one]
theorem own_made (w : World) (n : Nat) (hn : n ≤ 1000000) : (w.alloc (.cells (madeCells #[.slice none 0 0] n) 42)).ownsRow w.heap.size 42 1 (.slice (some ⟨w.heap.size, 0, none⟩) n n) n ((List.replicate n (⟨none, 0, []⟩ : Rd)).map rdV) := by
  rw [madeV]
  exact ⟨by simp, Or.inr ⟨w.heap.size, n, ((List.replicate n (⟨none, 0, []⟩ : Rd)).map rdV).toArray, rfl, Nat.le_refl _, heap_alloc_new _ _, Nat.le_refl _, by unfold maxLen; omega, by simp, by rw [Nat.mul_one, List.take_of_length_le (by simp)]⟩⟩
theorem make_rows {z : Int} (n : Nat) (hz : (n : Int) = z) (hn : n ≤ 1000000) (w : World) : (Instr.makeSlice 35 (.int .i64 z) (.int .i64 z)).run Try.prog w = .ok (.slice (some ⟨w.heap.size, 0, none⟩) n n) (w.alloc (.cells (madeCells #[.slice none 0 0] n) 42)) := by
  subst hz
  exact run_make_row' (P := Try.prog) 35 42 (.slice none 0 0) 24 Try.underlying35 Try.infoV rfl .i64 .i64 n (by omega) (by omega) w

end Go.Proofs.Ytopnagjbdjicaaa

/-
  mat's own small calls: sized, within; whether a square may be.
-/
namespace Go.Proofs.Ytopnagjbdjicaaa
open Go.RowKit

set_option maxRecDepth 20000 in
theorem msized_any {W : World} {z : Int} {r : Bool} (hr : decide (1 ≤ z ∧ z ≤ 16) = r) :
    Calls Try.prog 63 #[.int .i64 z] W fun e w' => e = .returned (.bool r) ∧ W = w' := by
  subst hr
  by_cases h1 : 1 ≤ z
  · have d1 : decide ((1 : Int) ≤ z) = true := decide_eq_true h1
    by_cases h2 : z ≤ 16
    · have d2 : decide (z ≤ 16) = true := decide_eq_true h2
      rw [decide_eq_true (show 1 ≤ z ∧ z ≤ 16 from ⟨h1, h2⟩)]
      clear h1 h2
      go_enter Try.func63, Try.ntmps63
      go_wp2_with fail
      go_ret
      exact ⟨rfl, rfl⟩
    · have d2 : decide (z ≤ 16) = false := decide_eq_false h2
      rw [decide_eq_false (show ¬ (1 ≤ z ∧ z ≤ 16) from fun h => h2 h.2)]
      clear h1 h2
      go_enter Try.func63, Try.ntmps63
      go_wp2_with fail
      go_ret
      exact ⟨rfl, rfl⟩
  · have d1 : decide ((1 : Int) ≤ z) = false := decide_eq_false h1
    rw [decide_eq_false (show ¬ (1 ≤ z ∧ z ≤ 16) from fun h => h1 h.1)]
    clear h1
    go_enter Try.func63, Try.ntmps63
    go_wp2_with fail
    go_ret
    exact ⟨rfl, rfl⟩

set_option maxRecDepth 20000 in
theorem mwithin_any {W : World} {i z : Int} {r : Bool} (hr : decide (0 ≤ i ∧ i < z) = r) :
    Calls Try.prog 47 #[.int .i64 i, .int .i64 z] W fun e w' => e = .returned (.bool r) ∧ W = w' := by
  subst hr
  by_cases h1 : 0 ≤ i
  · have d1 : decide ((0 : Int) ≤ i) = true := decide_eq_true h1
    by_cases h2 : i < z
    · have d2 : decide (i < z) = true := decide_eq_true h2
      rw [decide_eq_true (show 0 ≤ i ∧ i < z from ⟨h1, h2⟩)]
      clear h1 h2
      go_enter Try.func47, Try.ntmps47
      go_wp2_with fail
      go_ret
      exact ⟨rfl, rfl⟩
    · have d2 : decide (i < z) = false := decide_eq_false h2
      rw [decide_eq_false (show ¬ (0 ≤ i ∧ i < z) from fun h => h2 h.2)]
      clear h1 h2
      go_enter Try.func47, Try.ntmps47
      go_wp2_with fail
      go_ret
      exact ⟨rfl, rfl⟩
  · have d1 : decide ((0 : Int) ≤ i) = false := decide_eq_false h1
    rw [decide_eq_false (show ¬ (0 ≤ i ∧ i < z) from fun h => h1 h.1)]
    clear h1
    go_enter Try.func47, Try.ntmps47
    go_wp2_with fail
    go_ret
    exact ⟨rfl, rfl⟩

/-- The closure of Good: is a row of another length? -/
theorem mrow_any {W : World} {p : Nat} {z : Int} {ra : Option Addr} {rn rc : Nat} (hc : W.cell? ⟨p, 0, none⟩ = some (.int .i64 z)) {r : Bool} (hr : ((rn : Int) != z) = r) :
    Calls Try.prog 72 #[.slice ra rn rc, .pointer (some ⟨p, 0, none⟩)] W fun e w' => e = .returned (.bool r) ∧ W = w' := by
  go_enter Try.func72, Try.ntmps72
  go_wp2_with fail
  go_ret
  exact ⟨rfl, rfl⟩

/-- Has some row another length? -/
def unevenM (z : Int) (m : List (List Nat)) : Bool := decide (∃ r ∈ m, (r.length : Int) ≠ z)

set_option maxRecDepth 20000 in
set_option maxHeartbeats 2000000 in
theorem midx_any {W : World} {p : Nat} {z : Int} {a : Option Addr} {cap n : Nat} {L : List Rd} (hc : W.cell? ⟨p, 0, none⟩ = some (.int .i64 z)) (h : SqV W a cap L) (hn : L.length = n) {r : Bool} (hr : unevenM z (mOf L) = r) :
    Calls Try.prog 84 #[.slice a n cap, .func (.func 72) #[] #[.pointer (some ⟨p, 0, none⟩)]] W fun e w' => (∃ k : Int, e = .returned (.int .i64 k) ∧ decide (k ≥ 0) = r) ∧ W = w' := by
  have hfit := h.fit
  have hmax := h.out.max
  unfold maxLen at hmax
  have S := Lib.hid h
  have HR := Lib.hid hr
  have HN := Lib.hid hn
  have HC := Lib.hid hc
  rw [hn] at hfit
  clear h hr hn hc
  go_enter Try.func84, Try.ntmps84
  go_wp2_with fail
  go_loop [8] (fun v => ∃ k : Nat, k ≤ n ∧ v = .int .i64 (k : Nat) ∧ Hid (∀ r ∈ L.take k, (r.l.length : Int) = z)) (fun v => n - (intOf v).toNat)
  case atStart => exact ⟨0, Nat.zero_le _, rfl, Lib.hid (fun r hr => by simp at hr)⟩
  case round =>
    obtain ⟨k, hk, rfl, hT⟩ := hrel
    by_cases hlt : k < n
    · have kl : k < L.length := by rw [HN.out]; exact hlt
      obtain ⟨b, off, rfl, hb, hc⟩ := S.out.at kl
      have i0 : (0 : Int) ≤ (k : Int) := by omega
      have i1 : (k : Int) < (n : Int) := by omega
      have hgt := Lib.hid (fun (h : (L[k].l.length : Int) ≠ z) => show true = r from by rw [← HR.out]; exact (decide_eq_true ⟨L[k].l, List.mem_map.2 ⟨L[k], List.getElem_mem _, rfl⟩, h⟩).symm)
      have hle := Lib.hid (fun (h : (L[k].l.length : Int) = z) => show ∀ r ∈ L.take (k + 1), (r.l.length : Int) = z from fun r hr => by
        rw [List.take_succ_eq_append_getElem kl] at hr
        rcases List.mem_append.1 hr with hr | hr
        · exact hT.out r hr
        · rw [List.mem_singleton.1 hr]; exact h)
      generalize L[k].l.length = x at *
      generalize L[k].a = ra at *
      generalize L[k].c = rc at *
      cases hx : ((x : Int) != z)
      · have CM := Lib.hid (mrow_any (ra := ra) (rn := x) (rc := rc) HC.out hx)
        have R := Lib.hid (hle.out (by simpa using hx))
        clear hx
        go_wp2_with (go_at_call 72; refine CM.out.mono ?_; rintro e w' ⟨rfl, rfl⟩)
        go_round
        case rel => exact ⟨k + 1, by omega, by go_num, R⟩
        case measure => simp only [intOf]; omega
      · have CM := Lib.hid (mrow_any (ra := ra) (rn := x) (rc := rc) HC.out hx)
        have R := Lib.hid (hgt.out (by simpa using hx))
        clear hx
        go_wp2_with (go_at_call 72; refine CM.out.mono ?_; rintro e w' ⟨rfl, rfl⟩)
        go_ret
        exact ⟨⟨k, rfl, by rw [← R.out]; exact decide_eq_true (by omega)⟩, rfl⟩
    · have R := Lib.hid (show false = r from by
        rw [← HR.out]
        refine (decide_eq_false ?_).symm
        rintro ⟨x, hx, hne⟩
        obtain ⟨y, hy, rfl⟩ := List.mem_map.1 hx
        refine hne (hT.out y ?_)
        rwa [List.take_of_length_le (by rw [HN.out]; omega)])
      go_wp2_with fail
      go_ret
      exact ⟨⟨-1, rfl, by rw [← R.out]; rfl⟩, rfl⟩

set_option maxRecDepth 20000 in
theorem mcont_any {W : World} {p : Nat} {z : Int} {a : Option Addr} {cap n : Nat} {L : List Rd} (hc : W.cell? ⟨p, 0, none⟩ = some (.int .i64 z)) (h : SqV W a cap L) (hn : L.length = n) {r : Bool} (hr : unevenM z (mOf L) = r) :
    Calls Try.prog 71 #[.slice a n cap, .func (.func 72) #[] #[.pointer (some ⟨p, 0, none⟩)]] W fun e w' => e = .returned (.bool r) ∧ W = w' := by
  have CI := Lib.hid (midx_any hc h hn hr)
  clear hc h hn hr
  go_enter Try.func71, Try.ntmps71
  go_wp2_with fail
  refine CI.out.mono ?_
  rintro e w' ⟨⟨k, rfl, hk⟩, rfl⟩
  go_wp2_with fail
  go_ret
  exact ⟨by first | rfl | rw [hk], rfl⟩

theorem goodM_split {z : Int} {m : List (List Nat)} : goodM z m = (decide (1 ≤ z ∧ z ≤ 16) && (decide ((m.length : Int) = z) && !unevenM z m)) := by
  rw [Bool.eq_iff_iff]
  simp only [goodM, unevenM, Bool.and_eq_true, Bool.not_eq_true', decide_eq_true_eq, decide_eq_false_iff_not]
  constructor
  · rintro ⟨h1, h2, h3, h4⟩
    exact ⟨⟨h1, h2⟩, h3, fun ⟨r, hr, hne⟩ => hne (h4 r hr)⟩
  · rintro ⟨⟨h1, h2⟩, h3, h4⟩
    exact ⟨h1, h2, h3, fun r hr => Classical.byContradiction fun h => h4 ⟨r, hr, h⟩⟩

set_option maxRecDepth 20000 in
set_option maxHeartbeats 2000000 in
theorem mgood_any {W : World} {a : Option Addr} {cap n : Nat} {L : List Rd} {z : Int} (h : SqV W a cap L) (hn : L.length = n) {r : Bool} (hr : goodM z (mOf L) = r) :
    Calls Try.prog 49 #[.agg #[.int .i64 z, .slice a n cap]] W fun e w' => e = .returned (.bool r) ∧ Below W.heap.size W w' := by
  have hmf : ∀ (fn : Fn) (first cap : Array Value) (w : World), (Instr.makeFunc fn first cap).run Try.prog w = .ok (.func fn first cap) w := fun _ _ _ _ => rfl
  obtain ⟨b1, h1⟩ : ∃ b, b = decide (1 ≤ z ∧ z ≤ 16) := ⟨_, rfl⟩
  obtain ⟨b2, h2⟩ : ∃ b, b = decide ((n : Int) = z) := ⟨_, rfl⟩
  obtain ⟨b3, h3⟩ : ∃ b, b = unevenM z (mOf L) := ⟨_, rfl⟩
  have HR := Lib.hid (show r = (b1 && (b2 && !b3)) from by rw [← hr, goodM_split, h1, h2, h3, mOf_len, hn])
  obtain ⟨w0, hw0⟩ : ∃ w0, w0 = W.alloc (.cells #[.int .i64 z, .slice a n cap] 37) := ⟨_, rfl⟩
  have hb : Below W.heap.size W w0 := by rw [hw0]; exact below_alloc (Below.refl _ _) _
  have hC : Cel 2 _ _ _ := (Cel.new W [.int .i64 z, .slice a n cap] 37).conv (V2 := mkC z (.slice a n cap)) (fun o ho => by
      rcases (show o = 0 ∨ o = 1 by simp at ho; omega) with rfl | rfl <;> rfl)
  rw [← show w0 = W.alloc (.cells #[.int .i64 z, .slice a n cap] 37) from hw0] at hC
  have c0 : w0.cell? ⟨W.heap.size, 0, none⟩ = some (.int .i64 z) := hC.c 0 (by decide)
  have c1 : w0.cell? ⟨W.heap.size, 1, none⟩ = some (.slice a n cap) := hC.c 1 (by decide)
  have CS := Lib.hid (msized_any (W := w0) h1.symm)
  have CC := Lib.hid (mcont_any c0 (h.below hb) hn h3.symm)
  have B := Lib.hid hb
  have HW := Lib.hid hw0.symm
  have e2 : ((n : Int) == z) = b2 := by rw [h2]; rfl
  clear hb hC h hn hr h1 h2 h3 hw0
  go_enter Try.func49, Try.ntmps49
  go_wp2_with fail
  rw [HW.out]
  cases b1 <;> cases b2
  all_goals
    go_wp2_with (first
      | (go_at_call 63; refine CS.out.mono ?_; rintro e w' ⟨rfl, rfl⟩)
      | (go_at_call 71; refine CC.out.mono ?_; rintro e w' ⟨rfl, rfl⟩))
    go_ret
    exact ⟨by rw [HR.out]; rfl, B.out⟩

end Go.Proofs.Ytopnagjbdjicaaa

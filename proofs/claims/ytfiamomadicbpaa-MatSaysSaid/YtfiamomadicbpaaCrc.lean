/-
  The document's own squares: copied, one more, put together.
-/
import Derived.Test.YtfiamomadicbpaaCown
import Derived.Test.YtfiamomadicbpaaChlp
import Derived.Test.YtfiamomadicbpaaCmk
import Derived.Test.YtfiamomadicbpaaBref
import Derived.Test.YtfiamomadicbpaaDref
namespace Go.Proofs.Ytfiamomadicbpaa
open Go.RowKit

/-- A square in memory of the call's own. -/
def NewSq (T : TypeId) (W : World) (m : List (List Nat)) (n : Nat) (e : Ending) (w' : World) : Prop :=
  ∃ s L, e = .returned s ∧ mOf L = m ∧ L.length = n ∧ OwnSq T W.heap.size w' s L ∧ Below W.heap.size W w'

def CopR (W : World) (L : List Rd) (s i : Value) (wr : World) : Prop :=
  ∃ (k : Nat) (M : List Rd), k ≤ L.length ∧ i = .int .i64 (k : Nat) ∧ M.length = k ∧ mOf M = (mOf L).take k ∧ OwnSq 37 W.heap.size wr s M ∧ Below W.heap.size W wr

theorem CopR.next {W wr w1 w2 w3 : World} {L M : List Rd} {s s' : Value} {k : Nat} {a : Option Addr} {c : Nat} {xs : List Nat} (hk : k < L.length) (e : xs = L[k].l) (hl : M.length = k) (hm : mOf M = (mOf L).take k) (hO : OwnSq 37 W.heap.size wr s M) (hb : Below W.heap.size W wr)
    (h1 : Below wr.heap.size wr w1) (hr : w1.ownsRow wr.heap.size 30 1 (.slice a xs.length c) xs.length (xs.map qV)) (hx : ∀ x ∈ xs, x < QM) (h2 : Below w1.heap.size w1 w2)
    (hown : w3.ownsRow W.heap.size 37 1 s' (k + 1) (M.map rdV ++ [.slice a xs.length c])) (hgr : w2.grownBy w3 s.ownBlock) (hat : ∀ j, s'.ownBlock = some j → s.ownBlock = some j ∨ w2.heap.size ≤ j) :
    CopR W L s' (.int .i64 ((k + 1 : Nat) : Int)) w3 := by
  subst hl
  refine ⟨M.length + 1, M ++ [⟨a, c, xs⟩], by omega, rfl, by simp, ?_, hO.push h1 hr hb.size hx h2 hown hgr hat, ?_⟩
  · have : (mOf L).take (M.length + 1) = (mOf L).take M.length ++ [L[M.length].l] := by
      rw [List.take_succ_eq_append_getElem (by rw [mOf_len]; exact hk), mOf_at hk]
    rw [this, ← hm, ← e]
    simp [mOf]
  · have hw := hb.size
    have := h1.size
    have := h2.size
    exact (hb.trans ((h1.mono hw).trans (h2.mono (by omega)))).grown hgr (by omega) (fun j h => (hO.out.lt j h).1)

set_option maxRecDepth 20000 in
set_option maxHeartbeats 8000000 in
theorem copied_any {W : World} {a : Option Addr} {cap n : Nat} {L : List Rd} (h : SqV W a cap L) (hn : L.length = n) (hl : n ≤ 10000) (hl2 : ∀ r ∈ L, r.l.length ≤ 10000) :
    Calls Try.prog 39 #[.slice a n cap] W (NewSq 37 W (mOf L) n) := by
  obtain ⟨i0, hi0, hz0, hz1, hz2⟩ := info_v Try.infoR
  obtain ⟨q0, hq0, hy0, hy1, hy2⟩ := info_q Try.infoQ
  have S := Lib.hid h
  have HN := Lib.hid hn
  have HL := Lib.hid hl2
  have S0 := Lib.hid (show CopR W L (.slice none 0 0) (.int .i64 0) W from ⟨0, [], Nat.zero_le _, rfl, rfl, rfl, OwnSq.nil _, Below.refl _ _⟩)
  have hsz := h.fit
  have hmx := h.out.max
  unfold maxLen at hmx
  rw [hn] at hsz
  clear h hn hl2
  go_enter Try.func39, Try.ntmps39
  go_wp2_with fail
  go_loopw [3, 4] (fun s i wr => CopR W L s i wr) (fun _ i _ => n - (intOf i).toNat)
  case atStart => exact S0.out
  case round =>
    obtain ⟨k, M, hk, rfl, hM, hm, hO, hb⟩ := hrel
    rw [HN.out] at hk
    clear S0
    by_cases hlt : k < n
    · have kl : k < L.length := by rw [HN.out]; exact hlt
      have SB := Lib.hid (S.out.below hb)
      obtain ⟨b, off, rfl, hbW, hcx⟩ := SB.out.at kl
      have j0 : (0 : Int) ≤ (k : Int) := by omega
      have j1 : (k : Int) < (n : Int) := by omega
      have hk8 : k ≤ 10000 := by omega
      have RW := Lib.hid (SB.out.row kl)
      have HX := Lib.hid (HL.out L[k] (List.getElem_mem _))
      have NX := Lib.hid (fun w1 w2 w3 s' a c h1 hr hx h2 hown hgr hat => CopR.next (w1 := w1) (w2 := w2) (w3 := w3) (s' := s') (a := a) (c := c) kl rfl hM hm hO hb h1 hr hx h2 hown hgr hat)
      obtain ⟨sa, sc, rfl⟩ := own_form hO.out
      have E0 := Lib.hid (below_alloc (Below.refl _ wr) (.cells #[] 30))
      have hcx1 : (wr.alloc (.cells #[] 30)).cell? ⟨b, off + k, none⟩ = some (.slice L[k].a L[k].l.length L[k].c) := cell_go hcx E0.out
      have RA := Lib.hid (RW.out.below E0.out)
      have OL := Lib.hid (World.ownsRow_lit (base := wr.heap.size) (e := 30) (size := 1) wr #[] 0 (Nat.le_refl _) (by unfold maxLen; omega) rfl)
      have OO := Lib.hid hO
      have HM := Lib.hid hM
      have SZ := Lib.hid hb.size
      rw [hM] at NX ⊢
      clear hO hb hm hM hbW
      generalize L[k] = x at *
      clear kl
      obtain ⟨xa, xc, xl⟩ := x
      simp only at hcx hcx1 RA HX NX RW
      generalize hxl : xl.length = x1 at *
      have XL := Lib.hid hxl
      clear hxl hcx RW
      have HX' := Lib.hid (show x1 ≤ 10000 from HX.out)
      clear HX
      go_wp2_with (first
        | (at_builtin
           refine wpList_append_at rfl (.tmp 12) (.tmp 16) 37 rfl wr.heap.size 30 q0 (.int .u64 0) 1 8 Try.underlying37 hq0 hy0 hy1 hy2 rfl (by decide) (.slice (some ⟨wr.heap.size, 0, none⟩) 0 0) 0 [] rfl OL.out xa x1 xc (xl.map qV) rfl ?h2 ?h3 ?h4 (ones_q xl) ?h6 ?h7 E0.out.size ?_
           case h2 => rw [List.length_map, XL.out, Nat.mul_one]
           case h3 => intro e; have h0 := RA.out.empty e; rw [XL.out] at h0; exact h0
           case h4 => exact RA.out.news
           case h6 => have := HX'.out; unfold maxLen; omega
           case h7 => have := HX'.out; omega
           intro v2 w2 hown2 hgr2 hat2
           rw [Nat.zero_add, List.nil_append] at hown2
           obtain ⟨va, vc, rfl⟩ := own_form hown2
           have B2 := Lib.hid (E0.out.grown hgr2 E0.out.size (fun k h => (OL.out.lt k h).1))
           have O2 := Lib.hid hown2
           clear hown2 hgr2 hat2)
        | (at_builtin
           refine wpList_append_at rfl (.tmp 11) (.tmp 18) 35 rfl W.heap.size 37 i0 (.slice none 0 0) 1 24 Try.underlying35 hi0 hz0 hz1 hz2 rfl (by decide) (.slice sa k sc) k (M.map rdV) rfl ?h1 _ _ _ [.slice va x1 vc] rfl ?h2 ?h3 ?h4 ?h5 ?h6 ?h7 ?h8 ?_
           case h1 =>
             have h := (OO.out.below (B2.out.trans ((below_alloc (Below.refl _ w2) (.cells #[.slice va x1 vc] 37)).mono B2.out.size))).out
             rw [HM.out] at h
             exact h
           case h2 => rfl
           case h3 => intro e; cases e
           case h4 => exact lit_cell _ _ _
           case h5 => intro u hu; rw [List.mem_singleton.1 hu]; rfl
           case h6 => unfold maxLen; omega
           case h7 => omega
           case h8 => have := SZ.out; have := B2.out.size; simp; omega
           intro v3 w3 hown3 hgr3 hat3
           have R := Lib.hid (NX.out w2 (w2.alloc (.cells #[.slice va x1 vc] 37)) w3 v3 va vc B2.out O2.out RA.out.lt (below_alloc (Below.refl _ w2) _) hown3 hgr3 hat3)
           clear hown3 hgr3 hat3))
      go_roundw
      case rel => exact R.out
      case measure => simp only [intOf]; omega
    · obtain rfl : k = n := by omega
      have dk : decide ((k : Int) < (k : Int)) = false := decide_eq_false (by omega)
      rw [List.take_of_length_le (by rw [mOf_len, HN.out]; exact Nat.le_refl _)] at hm
      obtain ⟨sa, sc, rfl⟩ := own_form hO.out
      rw [hM] at hO ⊢
      have R := Lib.hid (show NewSq 37 W (mOf L) k (.returned (.slice sa k sc)) wr from ⟨_, M, rfl, hm, hM, hO, hb⟩)
      clear hO hb hm
      go_wp2_with fail
      go_ret
      exact R.out

end Go.Proofs.Ytfiamomadicbpaa

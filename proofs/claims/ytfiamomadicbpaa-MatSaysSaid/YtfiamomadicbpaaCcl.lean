/-
  mat.clone.
-/
import Derived.Test.YtfiamomadicbpaaCfil
import Derived.Test.YtfiamomadicbpaaBmak
import Derived.Test.YtfiamomadicbpaaWreg
namespace Go.Proofs.Ytfiamomadicbpaa
open Go.RowKit

set_option maxRecDepth 20000 in
set_option maxHeartbeats 2000000 in
theorem rclone_any {W : World} {a : Option Addr} {cap n : Nat} {L : List Rd} (h : SqV W a cap L) (hn : L.length = n) (hl : n ≤ 1000000) :
    Calls Try.prog 44 #[.slice a n cap] W fun e w' => ∃ a' cap', e = .returned (.slice a' n cap') ∧ w'.ownsRow W.heap.size 39 1 (.slice a' n cap') n (L.map rdV) ∧ Below W.heap.size W w' := by
  obtain ⟨i0, hi0, hz0, hz1, hz2⟩ := info_v Try.infoV
  subst hn
  cases a with
  | none =>
    have h1 := h.out.nil rfl
    have h2 := h.fit
    obtain rfl : L = [] := List.length_eq_zero_iff.1 (by omega)
    subst h1
    clear h hl h2
    have he : ∀ w : World, (binOp .eql 23 (.slice none 0 0) (.slice none 0 0)).run Try.prog w = .ok (.bool true) w := fun _ => rfl
    go_enter Try.func44, Try.ntmps44
    go_wp2_with fail
    go_ret
    exact ⟨none, 0, rfl, World.ownsRow_nil _ _ _ _, Below.refl _ _⟩
  | some ad =>
    have S := Lib.hid h
    clear h
    generalize hn : L.length = n at *
    have X := Lib.hid hn
    clear hn
    have he : ∀ w : World, (binOp .eql 23 (.slice (some ad) n cap) (.slice none 0 0)).run Try.prog w = .ok (.bool false) w := fun _ => rfl
    have O := Lib.hid (World.ownsRow_lit (base := W.heap.size) (e := 39) (size := 1) W #[] 0 (Nat.le_refl _) (by unfold maxLen; omega) rfl)
    have NW := Lib.hid (fun (w : World) (hb : Below W.heap.size W w) => show ∀ ad', some ad = some ad' → ∀ j u, (L.map rdV)[j]? = some u → w.cell? (ad'.add j) = some u from fun ad' e j u hu => by
      cases e
      exact (S.out.out.below hb).news _ rfl j u hu)
    go_enter Try.func44, Try.ntmps44
    go_wp2_with (at_builtin; refine wpList_append_at rfl (.tmp 5) (.tmp 6) 23 rfl W.heap.size 39 i0 (.slice none 0 0) 1 24 Try.underlying23 hi0 hz0 hz1 hz2 rfl (by decide) _ _ _ rfl O.out _ _ _ (L.map rdV) rfl (by have := X.out; simp [this]) (fun e => by cases e) (NW.out _ ((Below.refl _ _).alloc (Nat.le_refl _) _)) (ones_r _) (by unfold maxLen; omega) (by omega) (by simp) ?_
                 intro v2 w2 hown2 hgr2 hat2
                 have hb2 : Below W.heap.size W w2 := ((Below.refl _ _).alloc (Nat.le_refl _) _).grown hgr2 (by simp) (fun k h => (O.out.lt k h).1)
                 try rw [Nat.zero_add, List.nil_append] at hown2
                 obtain ⟨a2, cap2, rfl⟩ := own_form hown2
                 have R := Lib.hid (And.intro hown2 hb2)
                 clear hown2 hgr2 hb2 hat2)
    go_ret
    exact ⟨a2, cap2, rfl, R.out.1, R.out.2⟩

theorem cl_clone {W : World} {a : Option Addr} {cap n : Nat} {xs : List Nat} (h : SlAt qV QM W a cap xs) (hn : xs.length = n) (hl : n ≤ 1000000) :
    Calls Try.prog 45 #[.slice a n cap] W fun e w' => ∃ a' c', e = .returned (.slice a' n c') ∧ Below W.heap.size W w' ∧ w'.ownsRow W.heap.size 30 1 (.slice a' n c') n (xs.map qV) :=
  (vclone_any h hn hl).mono fun e w ⟨a, cap, h1, h2, h3, h4, h5⟩ => ⟨a, cap, by rw [h1, hn], h3, by rw [hn] at h5; exact h5⟩

def ClR (U : World) (n : Nat) (s : Value) (L : List Rd) (i : Value) (wr : World) : Prop :=
  ∃ (k : Nat) (K : List Rd), k ≤ n ∧ i = .int .i64 (k : Nat) ∧ K.length = k ∧ mOf K = (mOf L).take k ∧ ParSq 39 U.heap.size wr s K (L.drop k) ∧ Below U.heap.size U wr

set_option maxRecDepth 20000 in
set_option maxHeartbeats 8000000 in
theorem mclone_any {W : World} {a : Option Addr} {cap n : Nat} {L : List Rd} {z : Int} (h : SqV W a cap L) (hn : L.length = n) (hl : n ≤ 10000) (hl2 : ∀ r ∈ L, r.l.length ≤ 10000) :
    Calls Try.prog 29 #[.agg #[.int .i64 z, .slice a n cap]] W fun e w' => ∃ a' cap' K, e = .returned (.agg #[.int .i64 z, .slice a' n cap']) ∧ mOf K = mOf L ∧ K.length = n ∧ OwnSq 39 W.heap.size w' (.slice a' n cap') K ∧ Below W.heap.size W w' := by
  obtain ⟨U, hU⟩ : ∃ U, U = (W.alloc (.cells #[.int .i64 z, .slice a n cap] 25)).alloc (.cells #[.int .i64 0, .slice none 0 0] 25) := ⟨_, rfl⟩
  have hb : Below W.heap.size W U := by rw [hU]; exact below_alloc (box_b W _) _
  have C1 : Cel 2 U W.heap.size (mkC z (.slice a n cap)) := by rw [hU]; exact (box_new W z _ _).below (box_b _ _)
  have C2 : Cel 2 U (W.heap.size + 1) (mkC 0 (.slice none 0 0)) := by
    have := box_new (W.alloc (.cells #[.int .i64 z, .slice a n cap] 25)) 0 (.slice none 0 0) 25
    rw [← hU, show (W.alloc (.cells #[.int .i64 z, .slice a n cap] 25)).heap.size = W.heap.size + 1 by simp] at this
    exact this
  have p1 : U.cell? ⟨W.heap.size, 1, none⟩ = some (.slice a n cap) := C1.c 1 (by decide)
  have CR := Lib.hid (rclone_any (h.below hb) hn (by omega))
  have S := Lib.hid (h.below hb)
  have P1 := Lib.hid C1
  have T := Lib.hid C2
  have HB := Lib.hid hb
  have HU := Lib.hid hU.symm
  have HN := Lib.hid hn
  have HL := Lib.hid hl2
  clear hU hb C1 C2 h hn hl2
  go_enter Try.func29, Try.ntmps29
  go_wp2_with fail
  rw [HU.out]
  go_wp2_with fail
  refine CR.out.mono ?_
  rintro e w1 ⟨sa, sc, rfl, hO, hb1⟩
  have I0 := Lib.hid (show ClR U n (.slice sa n sc) L (.int .i64 0) w1 from ⟨0, [], Nat.zero_le _, rfl, rfl, rfl, ParSq.start hO HN.out, hb1⟩)
  clear hO hb1 p1 CR HU
  go_wp2_with fail
  go_loopw [11] (fun i wr => ClR U n (.slice sa n sc) L i wr) (fun i _ => n - (intOf i).toNat)
  case atStart => exact I0.out
  case round =>
    obtain ⟨k, K, hk, rfl, hlK, hm, hP, hb⟩ := hrel
    clear I0
    by_cases hlt : k < n
    · have kl : k < L.length := by rw [HN.out]; exact hlt
      rw [List.drop_eq_getElem_cons kl] at hP
      obtain ⟨gs, cs, es, -, -, hc0⟩ := hP.look
      simp only [Value.slice.injEq] at es
      obtain ⟨rfl, -, rfl⟩ := es
      rw [hlK] at hc0
      have CC := Lib.hid (cl_clone ((S.out.row kl).below hb) rfl (by have := HL.out _ (List.getElem_mem kl); omega))
      have FIN := Lib.hid (fun (w3 : World) (a : Option Addr) (c : Nat) (g1 : Below wr.heap.size wr w3) (g2 : w3.ownsRow wr.heap.size 30 1 (.slice a L[k].l.length c) L[k].l.length (L[k].l.map qV)) =>
        show ∃ c9, w3.cell? ⟨gs, k, none⟩ = some c9 ∧ w3.frozen? ⟨gs, k, none⟩ = false ∧ ClR U n (.slice (some ⟨gs, 0, none⟩) n sc) L (.int .i64 ((k + 1 : Nat) : Int)) (w3.setCell ⟨gs, k, none⟩ (.slice a L[k].l.length c)) from by
          obtain ⟨g, cap, e, hB, -, z1, z2, z3⟩ := hP.next g1 g2 hb.size (S.out.row kl).lt
          simp only [Value.slice.injEq, Option.some.injEq, Addr.mk.injEq, and_true] at e
          obtain ⟨rfl, -⟩ := e
          rw [hlK] at z1 z2 z3
          exact ⟨_, z1, z2, k + 1, _, by omega, rfl, by simp [hlK], by rw [List.take_succ_eq_append_getElem (by rw [mOf_len]; exact kl), mOf_at kl, ← hm]; simp [mOf], z3, (hb.trans (g1.mono hb.size)).setCell hB _⟩)
      have j0 : (0 : Int) ≤ (k : Int) := by omega
      have j1 : (k : Int) < (n : Int) := by omega
      clear hP hm hlK hb
      generalize L[k] = x at *
      clear kl
      obtain ⟨xa, xc, xl⟩ := x
      simp only at CC FIN hc0
      generalize xl.length = x1 at *
      go_wp2_with (go_at_call 45; refine CC.out.mono ?_; rintro e w3 ⟨a3, c3, rfl, hb3, ho3⟩; obtain ⟨c9, k1, k2, k3⟩ := FIN.out w3 a3 c3 hb3 ho3; have R := Lib.hid k3; clear hb3 ho3 k3)
      go_roundw
      case rel => exact R.out
      case measure => simp only [intOf]; omega
    · obtain rfl : k = n := by omega
      have dk : decide ((k : Int) < (k : Int)) = false := decide_eq_false (by omega)
      rw [List.drop_eq_nil_of_le (by rw [HN.out]; exact Nat.le_refl _)] at hP
      rw [List.take_of_length_le (by rw [mOf_len, HN.out]; exact Nat.le_refl _)] at hm
      have T1 := T.out.below hb
      have b0 : wr.cell? ⟨W.heap.size, 0, none⟩ = some (.int .i64 z) := (P1.out.below hb).c 0 (by decide)
      have d0 : wr.cell? ⟨W.heap.size + 1, 0, none⟩ = some (.int .i64 0) := T1.c 0 (by decide)
      have d1 : wr.cell? ⟨W.heap.size + 1, 1, none⟩ = some (.slice none 0 0) := T1.c 1 (by decide)
      have f0 := T1.fz 0
      have f1 := T1.fz 1
      have T2 := (T1.put 0 (.int .i64 z)).put 1 (.slice sa k sc)
      have r0 : ((wr.setCell ⟨W.heap.size + 1, 0, none⟩ (.int .i64 z)).setCell ⟨W.heap.size + 1, 1, none⟩ (.slice sa k sc)).cell? ⟨W.heap.size + 1, 0, none⟩ = some (.int .i64 z) := T2.c 0 (by decide)
      have r1 : ((wr.setCell ⟨W.heap.size + 1, 0, none⟩ (.int .i64 z)).setCell ⟨W.heap.size + 1, 1, none⟩ (.slice sa k sc)).cell? ⟨W.heap.size + 1, 1, none⟩ = some (.slice sa k sc) := T2.c 1 (by decide)
      have o := hP.done
      have fo : OffP (W.heap.size + 1) (.slice sa k sc) K := o.off (Or.inl T.out.lt)
      have o2 := ((o.put_off fo 0 (.int .i64 z)).put_off fo 1 (.slice sa k sc)).mono HB.out.size
      have B2 := ((HB.out.trans (hb.mono HB.out.size)).setCell (p := ⟨W.heap.size + 1, 0, none⟩) (by simp) (.int .i64 z)).setCell (p := ⟨W.heap.size + 1, 1, none⟩) (by simp) (.slice sa k sc)
      have R := Lib.hid (And.intro hm (And.intro hlK (And.intro o2 B2)))
      clear hP hm hlK hb T1 T2 o fo o2 B2
      go_wp2_with fail
      refine bodyPost_ret (v := .agg #[.int .i64 z, .slice sa k sc]) (by simp [results, Try.results29, go_sem, r0, r1]) rfl ?_
      exact ⟨_, _, K, rfl, R.out⟩

end Go.Proofs.Ytfiamomadicbpaa

/-
  Texts of this claim, put together.
-/
import Derived.Test.YtbmpeadoicjpnaaHawm
import Derived.Test.YtbmpeadoicjpnaaMao
import Derived.Test.YtbmpeadoicjpnaaMan
import Derived.Test.YtbmpeadoicjpnaaMag
import Derived.Test.YtbmpeadoicjpnaaMaj
import Derived.Test.YtbmpeadoicjpnaaMad

/-
  TrimBytes.
-/
namespace Go.Proofs.Ytbmpeadoicjpnaa
open Go.RowKit Go.Sort

def outG (o : Option (List Le)) : List Le := o.getD []
theorem tget_out {W : World} {ao : Option Addr} {cap len : Nat} {bs : List Nat} (hs : SlAt bV 256 W ao cap bs) (hlen : bs.length = len) (hl : len ≤ 1000000) {b : Bool} (hb : (getG bs).isSome = b) {m : List Le} (hm : outG (getG bs) = m) {n : Nat} (hn : m.length = n) :
    Calls Try.prog 15 #[.slice ao len cap] W fun e w' => ∃ a' c', e = .returned (.tuple #[gV a' n c', .bool b]) ∧ OwnLg 26 W.heap.size w' (.slice a' n c') m ∧ Below W.heap.size W w' := by
  subst hb hm hn
  refine (tget_any hs hlen hl rfl).mono ?_
  intro e w' h
  unfold GtPost at h
  unfold outG
  split at h
  · rename_i m hm
    rw [hm]
    exact h
  · rename_i hm
    rw [hm]
    exact ⟨none, 0, h.1, OwnLg.nil _, h.2⟩
theorem rget_out {W : World} {ao : Option Addr} {cap len : Nat} {bs : List Nat} (hs : SlAt bV 256 W ao cap bs) (hlen : bs.length = len) {b : Bool} (hb : (getG bs).isSome = b) {m : List Le} (hm : outG (getG bs) = m) {n : Nat} (hn : m.length = n) :
    Calls Try.prog 27 #[.slice ao len cap] W fun e w' => ∃ a' c', e = .returned (.tuple #[.slice a' n c', .bool b]) ∧ LgAt (fun _ => True) w' a' c' n m ∧ Below W.heap.size W w' := by
  subst hb hm hn
  refine (rgetl_any hs hlen rfl).mono ?_
  intro e w' h
  unfold GlPost at h
  unfold outG
  split at h
  · rename_i m hm
    rw [hm]
    obtain ⟨a', c', h1, h2, h3⟩ := h
    exact ⟨a', c', h1, h2.all, h3⟩
  · rename_i hm
    rw [hm]
    exact ⟨none, 0, h.1, LgAt.nil _ _, h.2⟩
theorem outG_len {bs : List Nat} (hb : ∀ x ∈ bs, x < 256) (hl : bs.length ≤ 400) : (outG (getG bs)).length ≤ 400 := by
  unfold outG
  cases hg : getG bs with
  | none => simp
  | some l =>
    obtain ⟨g1, g2, -, -⟩ := get_put hb hg
    have h1 := entsB_ge l
    have h2 : bs.length = (lebL l.length).length + (entsB l).length := by rw [← g2]; unfold putG; rw [if_pos g1, List.length_append]
    simp only [Option.getD_some]
    omega

set_option maxRecDepth 20000 in
set_option maxHeartbeats 8000000 in
theorem law_TrimBytes (l : List Le) (ao : Option Addr) (cap : Nat) (bs : List Nat) (ab : Option Addr) (cb : Nat) (W : World) (h : LgAt (fun _ => True) W ao cap l.length l) (hs : SlAt bV 256 W ab cb bs) :
    Calls Try.prog 5 #[.slice ao l.length cap, .slice ab bs.length cb] W fun e w' => e = .returned (.bool true) ∧ Below W.heap.size W w' := by
  obtain ⟨n, hn⟩ : ∃ n, n = l.length := ⟨_, rfl⟩
  obtain ⟨nb, hnb⟩ : ∃ n, n = bs.length := ⟨_, rfl⟩
  rw [← hn] at h ⊢
  rw [← hnb]
  have HN := Lib.hid hn.symm
  have HNB := Lib.hid hnb.symm
  have L := Lib.hid h
  have SB := Lib.hid hs
  have AW := Lib.hid (awake_any W)
  clear h hs hn hnb
  go_enter Try.func5, Try.ntmps5
  go_wp2_with fail
  refine AW.out.mono ?_
  rintro e w1 ⟨rfl, hb⟩
  have b1 := Lib.hid hb
  clear hb AW
  by_cases h40 : n > 40
  · have d1 : decide ((n : Int) > 40) = true := decide_eq_true (by omega)
    have d1' : decide (40 < n) = true := decide_eq_true h40
    go_wp2_with fail
    go_ret
    exact ⟨rfl, b1.out⟩
  · have d1 : decide ((n : Int) > 40) = false := decide_eq_false (by omega)
    have d1' : decide (40 < n) = false := decide_eq_false h40
    by_cases h41 : nb > 400
    · have d2 : decide ((nb : Int) > 400) = true := decide_eq_true (by omega)
      have d2' : decide (400 < nb) = true := decide_eq_true h41
      go_wp2_with fail
      go_ret
      exact ⟨rfl, b1.out⟩
    · have d2 : decide ((nb : Int) > 400) = false := decide_eq_false (by omega)
      have d2' : decide (400 < nb) = false := decide_eq_false h41
      obtain ⟨m, hm⟩ : ∃ m, outG (getG bs) = m := ⟨_, rfl⟩
      obtain ⟨k, hk⟩ : ∃ k, m.length = k := ⟨_, rfl⟩
      obtain ⟨bo, hbo⟩ : ∃ b, (getG bs).isSome = b := ⟨_, rfl⟩
      have hk400 : k ≤ 400 := by rw [← hk, ← hm]; exact outG_len SB.out.lt (by rw [HNB.out]; omega)
      have HK := Lib.hid hk
      have GC := Lib.hid (tget_out (SB.out.below b1.out) HNB.out (by omega) hbo hm hk)
      have RC := Lib.hid (fun (w : World) (hb : Below W.heap.size W w) => rget_out (SB.out.below hb) HNB.out hbo hm hk)
      have dbo : (bo != bo) = false := by cases bo <;> rfl
      clear hm hk hbo
      go_wp2_with fail
      refine GC.out.mono ?_
      rintro e w2 ⟨a2, c2, rfl, hO, hb⟩
      obtain ⟨V, hV⟩ : ∃ V, V = w2.alloc (.cells #[.slice a2 k c2] 29) := ⟨_, rfl⟩
      have bwV : Below w2.heap.size w2 V := by rw [hV]; exact boxb w2 _
      have b1V := hb.trans (bwV.mono hb.size)
      have bV := Lib.hid (b1.out.trans (b1V.mono b1.out.size))
      have CX := Lib.hid (show Cel 1 V w2.heap.size (gcE a2 k c2) by rw [hV]; exact boxG w2 a2 k c2 _)
      have LX := Lib.hid ((hO.at HK.out).below bwV)
      have RV := Lib.hid (RC.out V bV.out)
      have HV := Lib.hid hV.symm
      clear hb hO hV bwV b1V GC RC
      go_upto_region 6 with fail
      rw [HV.out]
      clear HV
      generalize w2.heap.size = px at *
      go_wp2_with fail
      refine RV.out.mono ?_
      rintro e w3 ⟨a3, c3, rfl, hL, hb⟩
      have b3 := Lib.hid (bV.out.trans (hb.mono bV.out.size))
      have x3 : w3.cell? ⟨px, 0, none⟩ = some (.slice a2 k c2) := (CX.out.below hb).c 0 (by decide)
      have K1 := Lib.hid (log1_any (LX.out.below hb) (by omega))
      have LY := Lib.hid hL
      clear hb hL RV
      go_wp2_with fail
      refine K1.out.mono ?_
      rintro e w4 ⟨a4, c4, rfl, hL, hb⟩
      have b4 := Lib.hid (b3.out.trans (hb.mono b3.out.size))
      have K2 := Lib.hid (logs_any hL (LY.out.below hb) (r := true) (decide_eq_true rfl))
      clear hb hL K1 LY x3
      go_wp2_with fail
      refine K2.out.mono ?_
      rintro e w5 ⟨rfl, q5, rfl⟩
      have bq : Below w4.heap.size w4 (w4.drewN q5) := drewN_below w4 q5
      have b5 := b4.out.trans (bq.mono b4.out.size)
      obtain ⟨w5, hw5⟩ : ∃ w5, w5 = w4.drewN q5 := ⟨_, rfl⟩
      rw [← hw5] at b5 ⊢
      obtain ⟨V5, hV5⟩ : ∃ V, V = w5.alloc (.cells #[.slice ao n cap] 29) := ⟨_, rfl⟩
      have bV5 := Lib.hid (b5.trans (show Below W.heap.size w5 V5 by rw [hV5]; exact (boxb w5 _).mono b5.size))
      have CG := Lib.hid (show Cel 1 V5 w5.heap.size (gcE ao n cap) by rw [hV5]; exact boxG w5 ao n cap _)
      have g5 : V5.cell? ⟨w5.heap.size, 0, none⟩ = some (.slice ao n cap) := CG.out.c 0 (by decide)
      have HV5 := Lib.hid hV5.symm
      clear bq b5 b4 b3 hw5 hV5 K2 dbo
      go_upto_region 10 with fail
      rw [HV5.out]
      clear HV5
      generalize w5.heap.size = pg at *
      go_wp2_with fail
      refine (tgood_any (L.out.below bV5.out) rfl).mono ?_
      rintro e w6 ⟨rfl, hb⟩
      have b6 := Lib.hid (bV5.out.trans (hb.mono bV5.out.size))
      have g6 : w6.cell? ⟨pg, 0, none⟩ = some (.slice ao n cap) := (CG.out.below hb).c 0 (by decide)
      clear hb g5
      cases hg : goodL l
      · clear hg
        go_wp2_with fail
        go_ret
        exact ⟨rfl, b6.out⟩
      · have GB : getG (putG l) = some l := get_back hg (fun x hx => (L.out.ok x hx).2.1) (by rw [HN.out]; omega)
        obtain ⟨P, hP⟩ : ∃ P, putG l = P := ⟨_, rfl⟩
        have PB := Lib.hid (show P.length ≤ 2000 from by
          rw [← hP]
          unfold putG
          rw [if_pos hg, List.length_append]
          have h1 := entsB_len (fun x hx => (goodL_iff.1 hg).1 x hx) (fun x hx => (L.out.ok x hx).2.1)
          have h2 := lens l.length (by rw [HN.out]; omega)
          rw [HN.out] at h1
          omega)
        rw [hP] at GB
        have PC := Lib.hid (tput_any (L.out.below b6.out) (by omega) hP)
        have GS := Lib.hid (show (getG P).isSome = true by rw [GB]; rfl)
        have GO := Lib.hid (show outG (getG P) = l by rw [GB]; rfl)
        clear hg hP GB
        go_wp2_with fail
        refine PC.out.mono ?_
        rintro e w7 ⟨a7, c7, rfl, hS, hb, -⟩
        have b7 := Lib.hid (b6.out.trans (hb.mono b6.out.size))
        have TG := Lib.hid (tget_out hS rfl (by have := PB.out; omega) GS.out GO.out HN.out)
        clear hS hb PC g6
        go_wp2_with fail
        refine TG.out.mono ?_
        rintro e w8 ⟨a8, c8, rfl, hO, hb⟩
        obtain ⟨V8, hV8⟩ : ∃ V, V = w8.alloc (.cells #[.slice a8 n c8] 29) := ⟨_, rfl⟩
        have bw8 : Below w8.heap.size w8 V8 := by rw [hV8]; exact boxb w8 _
        have b7V := hb.trans (bw8.mono hb.size)
        have bV8 := Lib.hid (b7.out.trans (b7V.mono b7.out.size))
        have CZ := Lib.hid (show Cel 1 V8 w8.heap.size (gcE a8 n c8) by rw [hV8]; exact boxG w8 a8 n c8 _)
        have z8 : V8.cell? ⟨w8.heap.size, 0, none⟩ = some (.slice a8 n c8) := CZ.out.c 0 (by decide)
        have K8 := Lib.hid (log1_any ((hO.at HN.out).below bw8) (by omega))
        have HV8 := Lib.hid hV8.symm
        clear hb hO hV8 bw8 b7V TG
        go_upto_region 13 with fail
        rw [HV8.out]
        clear HV8
        generalize w8.heap.size = pz at *
        go_wp2_with fail
        refine K8.out.mono ?_
        rintro e w9 ⟨a9, c9, rfl, hL, hb⟩
        have b9 := Lib.hid (bV8.out.trans (hb.mono bV8.out.size))
        have LZ := Lib.hid hL
        have KA := Lib.hid (log1_any (L.out.below b9.out) (by omega))
        clear hL hb K8 z8
        go_wp2_with fail
        refine KA.out.mono ?_
        rintro e wa ⟨aa, ca, rfl, hL, hb⟩
        have ba := Lib.hid (b9.out.trans (hb.mono b9.out.size))
        have KB := Lib.hid (logs_any (LZ.out.below hb) hL (r := true) (decide_eq_true rfl))
        clear hL hb KA
        go_wp2_with (go_at_call 17; refine KB.out.mono ?_; rintro e w5 ⟨rfl, q9, rfl⟩)
        go_ret
        exact ⟨rfl, ba.out.trans ((drewN_below wa q9).mono ba.out.size)⟩

end Go.Proofs.Ytbmpeadoicjpnaa

/-
  TrimKnown: logs written out; each call in one contract.
-/
namespace Go.Proofs.Ytbmpeadoicjpnaa
open Go.RowKit Go.Sort

theorem lit_many (W : World) (T : TypeId) (l : List Le) (cs : Array Value) (n : Nat) (hc : cs.toList = lgC l) (hn : l.length = n) (hm : n ≤ 1000) (hx : ∀ x ∈ l, OkX x) : OwnLg T W.heap.size (W.alloc (.cells cs T)) (.slice (some ⟨W.heap.size, 0, none⟩) n n) l := by
  have hs : cs.size = n * 3 := by rw [← Array.length_toList, hc, lgC_len, hn]
  have := World.ownsRow_lit (base := W.heap.size) (e := T) (size := 3) W cs n (Nat.le_refl _) (by unfold maxLen; omega) hs
  rw [hc] at this
  subst hn
  exact ⟨this, hx⟩
theorem lit_at (W : World) (T : TypeId) (l : List Le) (cs : Array Value) (n : Nat) (hc : cs.toList = lgC l) (hn : l.length = n) (hm : n ≤ 1000) (hx : ∀ x ∈ l, OkX x) : LgAt (fun _ => True) (W.alloc (.cells cs T)) (some ⟨W.heap.size, 0, none⟩) n n l :=
  ((lit_many W T l cs n hc hn hm hx).at hn).all

/-- A log in a variable's block. -/
structure LgV (w : World) (p : Nat) (a : Option Addr) (c n : Nat) (l : List Le) : Prop where
  ce : w.cell? ⟨p, 0, none⟩ = some (.slice a n c)
  ro : LgAt (fun _ => True) w a c n l
theorem LgV.below {w w' : World} {p : Nat} {a : Option Addr} {c n : Nat} {l : List Le} (h : LgV w p a c n l) (hb : Below w.heap.size w w') : LgV w' p a c n l := ⟨cell_go h.ce hb, h.ro.below hb⟩
theorem LgV.box {w : World} {a : Option Addr} {c n : Nat} {l : List Le} (h : LgAt (fun _ => True) w a c n l) (t : TypeId) : LgV (w.alloc (.cells #[.slice a n c] t)) w.heap.size a c n l :=
  ⟨(boxG w a n c t).c 0 (by decide), h.below (boxb w _)⟩

/-- What a call gives: a log, told by its list. -/
def KPost (W : World) (m : List Le) (n : Nat) (e : Ending) (w' : World) : Prop :=
  ∃ a c, e = .returned (.agg #[.slice a n c]) ∧ LgAt (fun _ => True) w' a c n m ∧ Below W.heap.size W w'
theorem KPost.of {W : World} {m m' : List Le} {n : Nat} {e : Ending} {w' : World} (h : GPost W m n e w') (hm : m = m') : KPost W m' n e w' := by
  subst hm
  obtain ⟨a, c, he, hO, hl, hb⟩ := h
  exact ⟨a, c, he, (hO.at hl).all, hb⟩
section
variable {A B : Nat → Prop} {W : World} {a b : Option Addr} {cap n : Nat} {l m : List Le} {k : Nat}
theorem less_k (h : LgAt A W a cap n l) (hl : n ≤ 1000000) (to : Nat) {z : Int} (hz : (to : Int) = z) (hto : to < 18446744073709551616) (hm : butL l to (-1) = m) :
    Calls Try.prog 10 #[.agg #[.slice a n cap], .int .u64 z] W (KPost W m n) := by
  subst hz
  exact (less_any h hl hto).mono fun _ _ h => KPost.of h hm
theorem but_k (h : LgAt A W a cap n l) (hl : n ≤ 1000000) (to : Nat) {z : Int} (hz : (to : Int) = z) (hto : to < 18446744073709551616) {d : Int} (hd : IntOk d) (hm : butL l to d = m) :
    Calls Try.prog 12 #[.agg #[.slice a n cap], .int .u64 z, .int .i64 d] W (KPost W m n) := by
  subst hz
  exact (but_any h hl hto hd).mono fun _ _ h => KPost.of h hm
theorem purge_k (h : LgAt A W a cap n l) (hl : n ≤ 1000000) (hm : purgeL l = m) (hk : m.length = k) :
    Calls Try.prog 11 #[.agg #[.slice a n cap]] W (KPost W m k) :=
  (purge_any h hl (by rw [hm]; exact hk)).mono fun _ _ h => KPost.of h hm
theorem add_k (h : LgAt A W a cap n l) (hl : n ≤ 100000) (x : Le) (hx : OkX x) {f zn zt : Int} (hf : x.f = f) (hn : (x.n : Int) = zn) (ht : (x.t : Int) = zt) (hm : addL l x = m) (hk : m.length = k) :
    Calls Try.prog 13 #[.agg #[.slice a n cap], .agg #[.int .i64 f, .int .u64 zn, .int .u64 zt]] W (KPost W m k) := by
  subst hf hn ht
  exact (add_any h hl hx (by rw [hm]; exact hk)).mono fun _ _ h => KPost.of h hm
theorem join_k {c2 n2 : Nat} {l2 : List Le} (h : LgAt A W a cap n l) (h2 : LgAt B W b c2 n2 l2) (hl : n ≤ 100000) (hl2 : n2 ≤ 100000) (hm : joinG l l2 = m) (hk : m.length = k) :
    Calls Try.prog 14 #[.agg #[.slice a n cap], .agg #[.slice b n2 c2]] W (KPost W m k) :=
  (join_any h h2 hl hl2 (by rw [hm]; exact hk)).mono fun _ _ h => KPost.of h hm
theorem put_k (h : LgAt A W a cap n l) (hl : n ≤ 10000) {L : List Nat} (hL : putG l = L) (hk : L.length = k) :
    Calls Try.prog 16 #[.agg #[.slice a n cap]] W fun e w' => ∃ a' c', e = .returned (.slice a' k c') ∧ w'.ownsRow W.heap.size 5 1 (.slice a' k c') k (L.map bV) ∧ Below W.heap.size W w' := by
  subst hk
  exact (tput_own h hl hL).mono fun _ _ h => h
theorem get_k {bs : List Nat} (hs : SlAt bV 256 W a cap bs) (hn : bs.length = n) (hl : n ≤ 1000000) {r : Bool} (hr : (getG bs).isSome = r) (hm : outG (getG bs) = m) (hk : m.length = k) :
    Calls Try.prog 15 #[.slice a n cap] W fun e w' => ∃ a' c', e = .returned (.tuple #[.agg #[.slice a' k c'], .bool r]) ∧ LgAt (fun _ => True) w' a' c' k m ∧ Below W.heap.size W w' :=
  (tget_out hs hn hl hr hm hk).mono fun _ _ ⟨a', c', he, hO, hb⟩ => ⟨a', c', he, (hO.at hk).all, hb⟩
theorem log_k (h : LgAt A W a cap n l) (hn : n ≤ 100000) :
    Calls Try.prog 18 #[.slice a n cap] W fun e w' => ∃ a' c', e = .returned (.slice a' n c') ∧ LgAt (fun _ => True) w' a' c' n l ∧ Below W.heap.size W w' :=
  (log1_any h hn).mono fun _ _ ⟨a', c', he, hO, hb⟩ => ⟨a', c', he, hO.all, hb⟩
end
theorem drew_b {w w' : World} {q : Nat} (h : w' = w.drewN q) : Below w.heap.size w w' := by rw [h]; exact drewN_below w q

theorem k_out : (getG gB).isSome = true ∧ outG (getG gB) = gK := by rw [k_get]; exact ⟨rfl, rfl⟩
theorem k_out1 : (getG (gB ++ [0])).isSome = false ∧ outG (getG (gB ++ [0])) = [] := by rw [k_get1]; exact ⟨rfl, rfl⟩

end Go.Proofs.Ytbmpeadoicjpnaa

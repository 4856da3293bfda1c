/-
  TrimSays.
-/
import Derived.Test.YtbmpeadoicjpnaaHawm
import Derived.Test.YtbmpeadoicjpnaaMag
import Derived.Test.YtbmpeadoicjpnaaMaj
import Derived.Test.YtbmpeadoicjpnaaMak
import Derived.Test.YtbmpeadoicjpnaaHptm
import Derived.Test.YtbmpeadoicjpnaaMap
import Derived.Test.YtbmpeadoicjpnaaMan
import Derived.Test.YtbmpeadoicjpnaaPopbm
import Derived.Test.YtbmpeadoicjpnaaWstrm
import Derived.Deep.RegionHeld3
namespace Go.Proofs.Ytbmpeadoicjpnaa
open Go.RowKit Go.Sort

/-- What stands while the program and the document are asked. -/
structure SaS (W : World) (px pg ph py : Nat) (x : Le) (o1 : Option Addr) (c1 n1 : Nat) (l1 : List Le) (o2 : Option Addr) (c2 n2 : Nat) (l2 : List Le) (a3 : Option Addr) (c3 : Nat) (a4 : Option Addr) (c4 : Nat) (w : World) : Prop where
  cx : Cel 3 w px (xcE x)
  cg : Cel 1 w pg (gcE o1 n1 c1)
  ch : Cel 1 w ph (gcE o2 n2 c2)
  cy : Cel 3 w py (xcE x)
  m1 : LgAt (fun _ => True) w o1 c1 n1 l1
  m2 : LgAt (fun _ => True) w o2 c2 n2 l2
  u1 : LgAt (fun _ => True) w a3 c3 n1 l1
  u2 : LgAt (fun _ => True) w a4 c4 n2 l2
  b : Below W.heap.size W w
theorem SaS.below {W : World} {px pg ph py : Nat} {x : Le} {o1 : Option Addr} {c1 n1 : Nat} {l1 : List Le} {o2 : Option Addr} {c2 n2 : Nat} {l2 : List Le} {a3 : Option Addr} {c3 : Nat} {a4 : Option Addr} {c4 : Nat} {w w' : World} (h : SaS W px pg ph py x o1 c1 n1 l1 o2 c2 n2 l2 a3 c3 a4 c4 w) (hb : Below w.heap.size w w') : SaS W px pg ph py x o1 c1 n1 l1 o2 c2 n2 l2 a3 c3 a4 c4 w' :=
  ⟨h.cx.below hb, h.cg.below hb, h.ch.below hb, h.cy.below hb, h.m1.below hb, h.m2.below hb, h.u1.below hb, h.u2.below hb, h.b.trans (hb.mono h.b.size)⟩
theorem LgAt.any {A : Nat → Prop} {w : World} {a : Option Addr} {cap n : Nat} {l : List Le} (h : LgAt A w a cap n l) : LgAt (fun _ => True) w a cap n l := h.mono fun _ _ _ => trivial

set_option maxRecDepth 20000 in
set_option maxHeartbeats 16000000 in
theorem law_TrimSays (l1 : List Le) (o1 : Option Addr) (c1 : Nat) (l2 : List Le) (o2 : Option Addr) (c2 : Nat) (x : Le) (ts : Nat) (d : Int) (W : World) (h1 : LgAt (fun _ => True) W o1 c1 l1.length l1) (h2 : LgAt (fun _ => True) W o2 c2 l2.length l2) (hx : OkX x) (hto : ts < 18446744073709551616) (hd : IntOk d) :
    Calls Try.prog 4 #[.slice o1 l1.length c1, .slice o2 l2.length c2, xV x, .int .u64 (ts : Int), .int .i64 d] W fun e w' => e = .returned (.bool true) ∧ Below W.heap.size W w' := by
  have hfl : ∀ (a : Option Addr) (n c : Nat) (w : World), (Instr.field 29 (.agg #[.slice a n c]) 0).run Try.prog w = .ok (.slice a n c) w := fun a n c w => by kernel_rfl
  have HX := Lib.hid (show xV x = .agg #[.int .i64 x.f, .int .u64 (x.n : Int), .int .u64 (x.t : Int)] from rfl)
  rw [HX.out]
  obtain ⟨n1, hn1⟩ : ∃ n, n = l1.length := ⟨_, rfl⟩
  obtain ⟨n2, hn2⟩ : ∃ n, n = l2.length := ⟨_, rfl⟩
  rw [← hn1] at h1 ⊢
  rw [← hn2] at h2 ⊢
  have N1 := Lib.hid hn1.symm
  have N2 := Lib.hid hn2.symm
  have M1 := Lib.hid h1
  have M2 := Lib.hid h2
  have OX := Lib.hid hx
  have HT := Lib.hid hto
  have HD := Lib.hid hd
  obtain ⟨U, hU⟩ : ∃ U, U = W.alloc (.cells #[.int .i64 x.f, .int .u64 (x.n : Int), .int .u64 (x.t : Int)] 26) := ⟨_, rfl⟩
  have CX := Lib.hid (show Cel 3 U W.heap.size (xcE x) by rw [hU]; exact boxX W x _)
  have bU := Lib.hid (show Below W.heap.size W U by rw [hU]; exact boxb W _)
  have AW := Lib.hid (awake_any U)
  have HU := Lib.hid hU.symm
  clear h1 h2 hn1 hn2 hx hto hd hU
  go_enter Try.func4, Try.ntmps4
  simp only [List.append_eq, List.cons_append, List.nil_append]
  go_upto_region 1 with fail
  rw [HU.out]
  clear HU
  go_wp2_with fail
  refine AW.out.mono ?_
  rintro e w1 ⟨rfl, hb⟩
  have b1 := Lib.hid (bU.out.trans (hb.mono bU.out.size))
  have X1 := Lib.hid (CX.out.below hb)
  clear hb AW CX bU
  by_cases h40 : n1 > 40
  · have d1 : decide ((n1 : Int) > 40) = true := decide_eq_true (by omega)
    have d1' : decide (40 < n1) = true := decide_eq_true h40
    go_wp2_with fail
    go_ret
    exact ⟨rfl, b1.out⟩
  have d1 : decide ((n1 : Int) > 40) = false := decide_eq_false (by omega)
  have d1' : decide (40 < n1) = false := decide_eq_false h40
  by_cases h41 : n2 > 40
  · have d2 : decide ((n2 : Int) > 40) = true := decide_eq_true (by omega)
    have d2' : decide (40 < n2) = true := decide_eq_true h41
    go_wp2_with fail
    go_ret
    exact ⟨rfl, b1.out⟩
  have d2 : decide ((n2 : Int) > 40) = false := decide_eq_false (by omega)
  have d2' : decide (40 < n2) = false := decide_eq_false h41
  obtain ⟨V, hV⟩ : ∃ V, V = (w1.alloc (.cells #[.slice o1 n1 c1] 29)).alloc (.cells #[.slice o2 n2 c2] 29) := ⟨_, rfl⟩
  have hbV : Below w1.heap.size w1 V := by rw [hV]; exact below_alloc (boxb w1 _) _
  have bV := Lib.hid (b1.out.trans (hbV.mono b1.out.size))
  have XV := Lib.hid (X1.out.below hbV)
  have DG := Lib.hid (show Cel 1 V w1.heap.size (gcE o1 n1 c1) by rw [hV]; exact (boxG w1 o1 n1 c1 _).below (boxb _ _))
  have DH := Lib.hid (show Cel 1 V (w1.heap.size + 1) (gcE o2 n2 c2) by
    have := boxG (w1.alloc (.cells #[.slice o1 n1 c1] 29)) o2 n2 c2 29
    rw [← hV, show (w1.alloc (.cells #[.slice o1 n1 c1] 29)).heap.size = w1.heap.size + 1 by simp] at this
    exact this)
  have HV := Lib.hid hV.symm
  clear hV hbV X1 b1
  go_upto_region 6 with fail
  rw [HV.out]
  clear HV
  generalize w1.heap.size = pg at *
  go_wp2_with fail
  refine (log1_any (M1.out.below bV.out) (by omega)).mono ?_
  rintro e w2 ⟨a3, c3, rfl, hL, hb⟩
  have b2 := Lib.hid (bV.out.trans (hb.mono bV.out.size))
  have X2 := Lib.hid (XV.out.below hb)
  have EG := Lib.hid (DG.out.below hb)
  have EH := Lib.hid (DH.out.below hb)
  have U1 := Lib.hid hL.any
  clear hL hb DG DH XV bV
  go_wp2_with fail
  refine (log1_any (M2.out.below b2.out) (by omega)).mono ?_
  rintro e w3 ⟨a4, c4, rfl, hL, hb⟩
  have x0 : w3.cell? ⟨W.heap.size, 0, none⟩ = some (.int .i64 x.f) := (X2.out.below hb).c 0 (by decide)
  have x1 : w3.cell? ⟨W.heap.size, 1, none⟩ = some (.int .u64 (x.n : Int)) := (X2.out.below hb).c 1 (by decide)
  have x2 : w3.cell? ⟨W.heap.size, 2, none⟩ = some (.int .u64 (x.t : Int)) := (X2.out.below hb).c 2 (by decide)
  obtain ⟨Y, hY⟩ : ∃ Y, Y = w3.alloc (.cells #[.int .i64 x.f, .int .u64 (x.n : Int), .int .u64 (x.t : Int)] 43) := ⟨_, rfl⟩
  have h3Y : Below w3.heap.size w3 Y := by rw [hY]; exact boxb w3 _
  have h2Y := hb.trans (h3Y.mono hb.size)
  have bY := b2.out.trans (h2Y.mono b2.out.size)
  have S0 := Lib.hid (show SaS W W.heap.size pg (pg + 1) w3.heap.size x o1 c1 n1 l1 o2 c2 n2 l2 a3 c3 a4 c4 Y from
    ⟨X2.out.below h2Y, EG.out.below h2Y, EH.out.below h2Y, by rw [hY]; exact boxX w3 x _, M1.out.below bY, M2.out.below bY, U1.out.below h2Y, hL.any.below h3Y, bY⟩)
  have HY := Lib.hid hY.symm
  clear hL hb h3Y h2Y bY hY b2 X2 EG EH U1
  have AM := Lib.hid (addL_len l1 x)
  obtain ⟨am, ham⟩ : ∃ am, (addL l1 x).length = am := ⟨_, rfl⟩
  have AL := Lib.hid ham
  have am1 : am ≤ 41 := by have := AM.out; rw [ham, N1.out] at this; omega
  obtain ⟨pm, hpm⟩ : ∃ pm, (purgeL l1).length = pm := ⟨_, rfl⟩
  have PL := Lib.hid hpm
  have pm1 : pm ≤ 40 := by have := (purge_sub (l := l1)).length_le; rw [hpm, N1.out] at this; omega
  obtain ⟨jm, hjm⟩ : ∃ jm, (joinG l1 l2).length = jm := ⟨_, rfl⟩
  have JL := Lib.hid hjm
  have jm1 : jm ≤ 80 := by
    rw [← hjm]
    by_cases hg : goodL l1 = true ∧ goodL l2 = true
    · have := joinG_len hg.1 hg.2
      rw [N1.out, N2.out] at this
      omega
    · rw [join_no hg, N1.out]
      omega
  obtain ⟨gb, hgb⟩ : ∃ gb, goodL l1 = gb := ⟨_, rfl⟩
  have GB := Lib.hid hgb
  have hbb : (gb == gb) = true := by simp
  obtain ⟨P, hP⟩ : ∃ P, putG l1 = P := ⟨_, rfl⟩
  have PP := Lib.hid hP
  clear ham hpm hjm hgb hP AM
  go_upto_region 8 with fail
  rw [HY.out]
  clear HY x0 x1 x2
  generalize w3.heap.size = py at *
  refine wp_region_noPanic ?_
  refine wp_region_held_drew (S := (fun w' => w'.cell? ⟨pg, 0, none⟩ = some (.slice o1 n1 c1) ∧ w'.cell? ⟨(pg + 1), 0, none⟩ = some (.slice o2 n2 c2) ∧ w'.cell? ⟨W.heap.size, 0, none⟩ = some (.int .i64 x.f) ∧ w'.cell? ⟨W.heap.size, 1, none⟩ = some (.int .u64 (x.n : Int)) ∧ w'.cell? ⟨W.heap.size, 2, none⟩ = some (.int .u64 (x.t : Int)) ∧ w'.cell? ⟨py, 0, none⟩ = some (.int .i64 x.f) ∧ w'.cell? ⟨py, 1, none⟩ = some (.int .u64 (x.n : Int)) ∧ w'.cell? ⟨py, 2, none⟩ = some (.int .u64 (x.t : Int)) ∧ Hid (Below Y.heap.size Y w'))) (by kernel_rfl) ?_ (fun hHeld => ?_)
  · exact ⟨S0.out.cg.c 0 (by decide), S0.out.ch.c 0 (by decide), S0.out.cx.c 0 (by decide), S0.out.cx.c 1 (by decide), S0.out.cx.c 2 (by decide), S0.out.cy.c 0 (by decide), S0.out.cy.c 1 (by decide), S0.out.cy.c 2 (by decide), Lib.hid (drew_below Y)⟩
  refine wpAnyH_take (i := 0) (oi := { dst := some 41, op := Op.load 29 (Operand.tmp 11), type := 29, pos := "law.go:67", after := #[], guard := none }) (v := ?_) rfl (by kernel_rfl) (by kernel_rfl) (by kernel_rfl) (fun _ _ _ h => h) (Or.inl ⟨by rfl, ?_⟩) (by assumption) ?_
  rotate_left
  · (intro w hSw; (try dsimp only at hSw); go_simp; try with_reducible rfl)
  ((try simp only [Act.put]); (try simp only [List.setIfInBounds_toArray]); (try simp only [List.set_cons_succ]); (try simp only [List.set_cons_zero]))
  refine wpAnyH_take (i := 2) (oi := { dst := some 43, op := Op.move (Operand.tmp 13), type := 40, pos := "law.go:67", after := #[], guard := none }) (v := ?_) rfl (by kernel_rfl) (by kernel_rfl) (by kernel_rfl) (fun _ _ _ h => h) (Or.inl ⟨by rfl, ?_⟩) (by assumption) ?_
  rotate_left
  · (intro w hSw; (try dsimp only at hSw); go_simp; try with_reducible rfl)
  ((try simp only [Act.put]); (try simp only [List.setIfInBounds_toArray]); (try simp only [List.set_cons_succ]); (try simp only [List.set_cons_zero]))
  refine wpAnyH_ready (rs := [1]) (by kernel_rfl) (by simp) ?_
  refine AllReadyH.cons (o := { dst := some 42, op := Op.call { callee := Callee.value (Operand.func 19), args := #[Operand.tmp 41], argTypes := #[29] }, type := 4, pos := "law.go:67", after := #[{ on := 0, ground := Ground.data }], guard := none }) rfl (fun K hK => ?_) AllReadyH.nil
  go_simp
  refine (tgood_any (S0.out.m1.below (Hid.out hHeld.2.2.2.2.2.2.2.2)) GB.out).mono ?_
  rintro e1 w ⟨rfl, hb⟩
  try go_wp2_with fail
  refine hK.out _ _ ?_ (fun hNew => ?_)
  · first | exact hHeld | exact ⟨cell_go hHeld.1 hb, cell_go hHeld.2.1 hb, cell_go hHeld.2.2.1 hb, cell_go hHeld.2.2.2.1 hb, cell_go hHeld.2.2.2.2.1 hb, cell_go hHeld.2.2.2.2.2.1 hb, cell_go hHeld.2.2.2.2.2.2.1 hb, cell_go hHeld.2.2.2.2.2.2.2.1 hb, Lib.hid ((Hid.out hHeld.2.2.2.2.2.2.2.2).trans (hb.mono (Hid.out hHeld.2.2.2.2.2.2.2.2).size))⟩
  clear hK K
  replace hHeld := hNew
  clear hNew
  ((try simp only [Act.put]); (try simp only [List.setIfInBounds_toArray]); (try simp only [List.set_cons_succ]); (try simp only [List.set_cons_zero]))
  refine wpAnyH_ready (rs := [3]) (by kernel_rfl) (by simp) ?_
  refine AllReadyH.cons (o := { dst := some 44, op := Op.call { callee := Callee.value (Operand.func 20), args := #[Operand.tmp 43], argTypes := #[40] }, type := 4, pos := "law.go:67", after := #[{ on := 2, ground := Ground.data }, { on := 1, ground := Ground.chain }], guard := none }) rfl (fun K hK => ?_) AllReadyH.nil
  go_simp
  refine (rgoodl_any (S0.out.u1.below (Hid.out hHeld.2.2.2.2.2.2.2.2)) GB.out).mono ?_
  rintro e1 w ⟨rfl, hb⟩
  try go_wp2_with fail
  refine hK.out _ _ ?_ (fun hNew => ?_)
  · first | exact hHeld | exact ⟨cell_go hHeld.1 hb, cell_go hHeld.2.1 hb, cell_go hHeld.2.2.1 hb, cell_go hHeld.2.2.2.1 hb, cell_go hHeld.2.2.2.2.1 hb, cell_go hHeld.2.2.2.2.2.1 hb, cell_go hHeld.2.2.2.2.2.2.1 hb, cell_go hHeld.2.2.2.2.2.2.2.1 hb, Lib.hid ((Hid.out hHeld.2.2.2.2.2.2.2.2).trans (hb.mono (Hid.out hHeld.2.2.2.2.2.2.2.2).size))⟩
  clear hK K
  replace hHeld := hNew
  clear hNew
  ((try simp only [Act.put]); (try simp only [List.setIfInBounds_toArray]); (try simp only [List.set_cons_succ]); (try simp only [List.set_cons_zero]))
  refine wpAnyH_take (i := 4) (oi := { dst := some 45, op := Op.binOp BinOp.eql 4 (Operand.tmp 42) (Operand.tmp 44) 4, type := 4, pos := "law.go:67", after := #[{ on := 1, ground := Ground.data }, { on := 3, ground := Ground.data }], guard := none }) (v := ?_) rfl (by kernel_rfl) (by kernel_rfl) (by kernel_rfl) (fun _ _ _ h => h) (Or.inl ⟨by rfl, ?_⟩) (by assumption) ?_
  rotate_left
  · (intro w hSw; (try dsimp only at hSw); go_simp; try with_reducible rfl)
  ((try simp only [Act.put]); (try simp only [List.setIfInBounds_toArray]); (try simp only [List.set_cons_succ]); (try simp only [List.set_cons_zero]))
  refine wpAnyH_take (i := 5) (oi := { dst := some 46, op := Op.move (Operand.tmp 45), type := 4, pos := "law.go:67", after := #[{ on := 4, ground := Ground.data }, { on := 3, ground := Ground.chain }], guard := none }) (v := ?_) rfl (by kernel_rfl) (by kernel_rfl) (by kernel_rfl) (fun _ _ _ h => h) (Or.inl ⟨by rfl, ?_⟩) (by assumption) ?_
  rotate_left
  · (intro w hSw; (try dsimp only at hSw); go_simp; try with_reducible rfl)
  ((try simp only [Act.put]); (try simp only [List.setIfInBounds_toArray]); (try simp only [List.set_cons_succ]); (try simp only [List.set_cons_zero]))
  refine wpAnyH_take (i := 6) (oi := { dst := some 47, op := Op.load 29 (Operand.tmp 11), type := 29, pos := "law.go:67", after := #[{ on := 5, ground := Ground.guard }], guard := some (5, true) }) (v := ?_) rfl (by kernel_rfl) (by kernel_rfl) (by kernel_rfl) (fun _ _ _ h => h) (Or.inl ⟨by rfl, ?_⟩) (by assumption) ?_
  rotate_left
  · (intro w hSw; (try dsimp only at hSw); go_simp; try with_reducible rfl)
  ((try simp only [Act.put]); (try simp only [List.setIfInBounds_toArray]); (try simp only [List.set_cons_succ]); (try simp only [List.set_cons_zero]))
  refine wpAnyH_take (i := 7) (oi := { dst := some 48, op := Op.load 26 (Operand.tmp 7), type := 26, pos := "law.go:67", after := #[{ on := 5, ground := Ground.guard }], guard := some (5, true) }) (v := ?_) rfl (by kernel_rfl) (by kernel_rfl) (by kernel_rfl) (fun _ _ _ h => h) (Or.inl ⟨by rfl, ?_⟩) (by assumption) ?_
  rotate_left
  · (intro w hSw; (try dsimp only at hSw); go_simp; try with_reducible rfl)
  ((try simp only [Act.put]); (try simp only [List.setIfInBounds_toArray]); (try simp only [List.set_cons_succ]); (try simp only [List.set_cons_zero]))
  refine wpAnyH_take (i := 11) (oi := { dst := some 52, op := Op.move (Operand.tmp 13), type := 40, pos := "law.go:67", after := #[{ on := 5, ground := Ground.guard }], guard := some (5, true) }) (v := ?_) rfl (by kernel_rfl) (by kernel_rfl) (by kernel_rfl) (fun _ _ _ h => h) (Or.inl ⟨by rfl, ?_⟩) (by assumption) ?_
  rotate_left
  · (intro w hSw; (try dsimp only at hSw); go_simp; try with_reducible rfl)
  ((try simp only [Act.put]); (try simp only [List.setIfInBounds_toArray]); (try simp only [List.set_cons_succ]); (try simp only [List.set_cons_zero]))
  refine wpAnyH_take (i := 12) (oi := { dst := some 53, op := Op.load 43 (Operand.tmp 15), type := 43, pos := "law.go:67", after := #[{ on := 5, ground := Ground.guard }], guard := some (5, true) }) (v := ?_) rfl (by kernel_rfl) (by kernel_rfl) (by kernel_rfl) (fun _ _ _ h => h) (Or.inl ⟨by rfl, ?_⟩) (by assumption) ?_
  rotate_left
  · (intro w hSw; (try dsimp only at hSw); go_simp; try with_reducible rfl)
  ((try simp only [Act.put]); (try simp only [List.setIfInBounds_toArray]); (try simp only [List.set_cons_succ]); (try simp only [List.set_cons_zero]))
  refine wpAnyH_ready (rs := [8]) (by kernel_rfl) (by simp) ?_
  refine AllReadyH.cons (o := { dst := some 49, op := Op.call { callee := Callee.value (Operand.func 13), args := #[Operand.tmp 47, Operand.tmp 48], argTypes := #[29, 26] }, type := 29, pos := "law.go:67", after := #[{ on := 6, ground := Ground.data }, { on := 7, ground := Ground.data }, { on := 5, ground := Ground.chain }, { on := 5, ground := Ground.guard }], guard := some (5, true) }) rfl (fun K hK => ?_) AllReadyH.nil
  go_simp
  refine (add_any (S0.out.m1.below (Hid.out hHeld.2.2.2.2.2.2.2.2)) (by omega) OX.out AL.out).mono ?_
  rintro e1 w ⟨a9, c9, rfl, hO, hO2, hb⟩
  have KK := Lib.hid (log1_any (hO.at hO2) (by omega))
  clear hO hO2
  try go_wp2_with fail
  refine hK.out _ _ ?_ (fun hNew => ?_)
  · first | exact hHeld | exact ⟨cell_go hHeld.1 hb, cell_go hHeld.2.1 hb, cell_go hHeld.2.2.1 hb, cell_go hHeld.2.2.2.1 hb, cell_go hHeld.2.2.2.2.1 hb, cell_go hHeld.2.2.2.2.2.1 hb, cell_go hHeld.2.2.2.2.2.2.1 hb, cell_go hHeld.2.2.2.2.2.2.2.1 hb, Lib.hid ((Hid.out hHeld.2.2.2.2.2.2.2.2).trans (hb.mono (Hid.out hHeld.2.2.2.2.2.2.2.2).size))⟩
  clear hK K
  replace hHeld := hNew
  clear hNew
  ((try simp only [Act.put]); (try simp only [List.setIfInBounds_toArray]); (try simp only [List.set_cons_succ]); (try simp only [List.set_cons_zero]))
  refine wpAnyH_take (i := 9) (oi := { dst := some 50, op := Op.field 29 (Operand.tmp 49) 0, type := 27, pos := "law.go:67", after := #[{ on := 8, ground := Ground.data }, { on := 5, ground := Ground.guard }], guard := some (5, true) }) (v := ?_) rfl (by kernel_rfl) (by kernel_rfl) (by kernel_rfl) (fun _ _ _ h => h) (Or.inl ⟨by rfl, ?_⟩) (by assumption) ?_
  rotate_left
  · (intro w hSw; (try dsimp only at hSw); go_simp; try with_reducible rfl)
  ((try simp only [Act.put]); (try simp only [List.setIfInBounds_toArray]); (try simp only [List.set_cons_succ]); (try simp only [List.set_cons_zero]))
  refine wpAnyH_ready (rs := [10]) (by kernel_rfl) (by simp) ?_
  refine AllReadyH.cons (o := { dst := some 51, op := Op.call { callee := Callee.value (Operand.func 18), args := #[Operand.tmp 50], argTypes := #[27] }, type := 40, pos := "law.go:67", after := #[{ on := 9, ground := Ground.data }, { on := 8, ground := Ground.chain }, { on := 5, ground := Ground.guard }], guard := some (5, true) }) rfl (fun K hK => ?_) AllReadyH.nil
  go_simp
  refine KK.out.mono ?_
  rintro e1 w ⟨a9, c9, rfl, hL, hb⟩
  have LL := Lib.hid hL
  clear hL KK
  try go_wp2_with fail
  refine hK.out _ _ ?_ (fun hNew => ?_)
  · first | exact hHeld | exact ⟨cell_go hHeld.1 hb, cell_go hHeld.2.1 hb, cell_go hHeld.2.2.1 hb, cell_go hHeld.2.2.2.1 hb, cell_go hHeld.2.2.2.2.1 hb, cell_go hHeld.2.2.2.2.2.1 hb, cell_go hHeld.2.2.2.2.2.2.1 hb, cell_go hHeld.2.2.2.2.2.2.2.1 hb, Lib.hid ((Hid.out hHeld.2.2.2.2.2.2.2.2).trans (hb.mono (Hid.out hHeld.2.2.2.2.2.2.2.2).size))⟩
  clear hK K
  replace hHeld := hNew
  clear hNew
  ((try simp only [Act.put]); (try simp only [List.setIfInBounds_toArray]); (try simp only [List.set_cons_succ]); (try simp only [List.set_cons_zero]))
  refine wpAnyH_ready (rs := [13]) (by kernel_rfl) (by simp) ?_
  refine AllReadyH.cons (o := { dst := some 54, op := Op.call { callee := Callee.value (Operand.func 21), args := #[Operand.tmp 52, Operand.tmp 53], argTypes := #[40, 43] }, type := 40, pos := "law.go:67", after := #[{ on := 11, ground := Ground.data }, { on := 12, ground := Ground.data }, { on := 10, ground := Ground.chain }, { on := 5, ground := Ground.guard }], guard := some (5, true) }) rfl (fun K hK => ?_) AllReadyH.nil
  go_simp
  refine (radd_any (x := x) (S0.out.u1.below (Hid.out hHeld.2.2.2.2.2.2.2.2)) (by omega) OX.out rfl).mono ?_
  rintro e1 w ⟨a8, c8, rfl, hL, hb⟩
  have KK := Lib.hid (logs_any (LL.out.below hb) hL (r := true) (decide_eq_true rfl))
  clear hL LL
  try go_wp2_with fail
  refine hK.out _ _ ?_ (fun hNew => ?_)
  · first | exact hHeld | exact ⟨cell_go hHeld.1 hb, cell_go hHeld.2.1 hb, cell_go hHeld.2.2.1 hb, cell_go hHeld.2.2.2.1 hb, cell_go hHeld.2.2.2.2.1 hb, cell_go hHeld.2.2.2.2.2.1 hb, cell_go hHeld.2.2.2.2.2.2.1 hb, cell_go hHeld.2.2.2.2.2.2.2.1 hb, Lib.hid ((Hid.out hHeld.2.2.2.2.2.2.2.2).trans (hb.mono (Hid.out hHeld.2.2.2.2.2.2.2.2).size))⟩
  clear hK K
  replace hHeld := hNew
  clear hNew
  ((try simp only [Act.put]); (try simp only [List.setIfInBounds_toArray]); (try simp only [List.set_cons_succ]); (try simp only [List.set_cons_zero]))
  refine wpAnyH_ready (rs := [14]) (by kernel_rfl) (by simp) ?_
  refine AllReadyH.cons (o := { dst := some 55, op := Op.call { callee := Callee.value (Operand.func 17), args := #[Operand.tmp 51, Operand.tmp 54], argTypes := #[40, 40] }, type := 4, pos := "law.go:67", after := #[{ on := 10, ground := Ground.data }, { on := 13, ground := Ground.data }, { on := 13, ground := Ground.chain }, { on := 5, ground := Ground.guard }], guard := some (5, true) }) rfl (fun K hK => ?_) AllReadyH.nil
  go_simp
  refine KK.out.mono ?_
  rintro e1 w ⟨rfl, q9, rfl⟩
  have hb := drewN_below w q9
  clear KK
  try go_wp2_with fail
  refine hK.out _ _ ?_ (fun hNew => ?_)
  · first | exact hHeld | exact ⟨cell_go hHeld.1 hb, cell_go hHeld.2.1 hb, cell_go hHeld.2.2.1 hb, cell_go hHeld.2.2.2.1 hb, cell_go hHeld.2.2.2.2.1 hb, cell_go hHeld.2.2.2.2.2.1 hb, cell_go hHeld.2.2.2.2.2.2.1 hb, cell_go hHeld.2.2.2.2.2.2.2.1 hb, Lib.hid ((Hid.out hHeld.2.2.2.2.2.2.2.2).trans (hb.mono (Hid.out hHeld.2.2.2.2.2.2.2.2).size))⟩
  clear hK K
  replace hHeld := hNew
  clear hNew
  ((try simp only [Act.put]); (try simp only [List.setIfInBounds_toArray]); (try simp only [List.set_cons_succ]); (try simp only [List.set_cons_zero]))
  refine wpAnyH_take (i := 15) (oi := { dst := some 56, op := Op.pick (Operand.tmp 46) (Operand.tmp 55) (Operand.const (Value.bool false)), type := 4, pos := "law.go:67", after := #[{ on := 5, ground := Ground.data }, { on := 14, ground := Ground.data }], guard := none }) (v := ?_) rfl (by kernel_rfl) (by kernel_rfl) (by kernel_rfl) (fun _ _ _ h => h) (Or.inl ⟨by rfl, ?_⟩) (by assumption) ?_
  rotate_left
  · (intro w hSw; (try dsimp only at hSw); go_simp; try with_reducible rfl)
  ((try simp only [Act.put]); (try simp only [List.setIfInBounds_toArray]); (try simp only [List.set_cons_succ]); (try simp only [List.set_cons_zero]))
  refine wpAnyH_take (i := 16) (oi := { dst := some 57, op := Op.move (Operand.tmp 56), type := 4, pos := "law.go:67", after := #[{ on := 15, ground := Ground.data }, { on := 14, ground := Ground.chain }], guard := none }) (v := ?_) rfl (by kernel_rfl) (by kernel_rfl) (by kernel_rfl) (fun _ _ _ h => h) (Or.inl ⟨by rfl, ?_⟩) (by assumption) ?_
  rotate_left
  · (intro w hSw; (try dsimp only at hSw); go_simp; try with_reducible rfl)
  ((try simp only [Act.put]); (try simp only [List.setIfInBounds_toArray]); (try simp only [List.set_cons_succ]); (try simp only [List.set_cons_zero]))
  refine wpAnyH_take (i := 17) (oi := { dst := some 58, op := Op.load 29 (Operand.tmp 11), type := 29, pos := "law.go:67", after := #[{ on := 16, ground := Ground.guard }], guard := some (16, true) }) (v := ?_) rfl (by kernel_rfl) (by kernel_rfl) (by kernel_rfl) (fun _ _ _ h => h) (Or.inl ⟨by rfl, ?_⟩) (by assumption) ?_
  rotate_left
  · (intro w hSw; (try dsimp only at hSw); go_simp; try with_reducible rfl)
  ((try simp only [Act.put]); (try simp only [List.setIfInBounds_toArray]); (try simp only [List.set_cons_succ]); (try simp only [List.set_cons_zero]))
  refine wpAnyH_take (i := 18) (oi := { dst := some 59, op := Op.move (Operand.tmp 3), type := 23, pos := "law.go:67", after := #[{ on := 16, ground := Ground.guard }], guard := some (16, true) }) (v := ?_) rfl (by kernel_rfl) (by kernel_rfl) (by kernel_rfl) (fun _ _ _ h => h) (Or.inl ⟨by rfl, ?_⟩) (by assumption) ?_
  rotate_left
  · (intro w hSw; (try dsimp only at hSw); go_simp; try with_reducible rfl)
  ((try simp only [Act.put]); (try simp only [List.setIfInBounds_toArray]); (try simp only [List.set_cons_succ]); (try simp only [List.set_cons_zero]))
  refine wpAnyH_take (i := 22) (oi := { dst := some 63, op := Op.move (Operand.tmp 13), type := 40, pos := "law.go:67", after := #[{ on := 16, ground := Ground.guard }], guard := some (16, true) }) (v := ?_) rfl (by kernel_rfl) (by kernel_rfl) (by kernel_rfl) (fun _ _ _ h => h) (Or.inl ⟨by rfl, ?_⟩) (by assumption) ?_
  rotate_left
  · (intro w hSw; (try dsimp only at hSw); go_simp; try with_reducible rfl)
  ((try simp only [Act.put]); (try simp only [List.setIfInBounds_toArray]); (try simp only [List.set_cons_succ]); (try simp only [List.set_cons_zero]))
  refine wpAnyH_take (i := 23) (oi := { dst := some 64, op := Op.move (Operand.tmp 3), type := 23, pos := "law.go:67", after := #[{ on := 16, ground := Ground.guard }], guard := some (16, true) }) (v := ?_) rfl (by kernel_rfl) (by kernel_rfl) (by kernel_rfl) (fun _ _ _ h => h) (Or.inl ⟨by rfl, ?_⟩) (by assumption) ?_
  rotate_left
  · (intro w hSw; (try dsimp only at hSw); go_simp; try with_reducible rfl)
  ((try simp only [Act.put]); (try simp only [List.setIfInBounds_toArray]); (try simp only [List.set_cons_succ]); (try simp only [List.set_cons_zero]))
  refine wpAnyH_ready (rs := [19]) (by kernel_rfl) (by simp) ?_
  refine AllReadyH.cons (o := { dst := some 60, op := Op.call { callee := Callee.value (Operand.func 10), args := #[Operand.tmp 58, Operand.tmp 59], argTypes := #[29, 24] }, type := 29, pos := "law.go:67", after := #[{ on := 17, ground := Ground.data }, { on := 18, ground := Ground.data }, { on := 16, ground := Ground.chain }, { on := 16, ground := Ground.guard }], guard := some (16, true) }) rfl (fun K hK => ?_) AllReadyH.nil
  go_simp
  refine (less_any (S0.out.m1.below (Hid.out hHeld.2.2.2.2.2.2.2.2)) (by omega) HT.out).mono ?_
  rintro e1 w ⟨a9, c9, rfl, hO, hO2, hb⟩
  have KK := Lib.hid (log1_any (hO.at hO2) (by omega))
  clear hO hO2
  try go_wp2_with fail
  refine hK.out _ _ ?_ (fun hNew => ?_)
  · first | exact hHeld | exact ⟨cell_go hHeld.1 hb, cell_go hHeld.2.1 hb, cell_go hHeld.2.2.1 hb, cell_go hHeld.2.2.2.1 hb, cell_go hHeld.2.2.2.2.1 hb, cell_go hHeld.2.2.2.2.2.1 hb, cell_go hHeld.2.2.2.2.2.2.1 hb, cell_go hHeld.2.2.2.2.2.2.2.1 hb, Lib.hid ((Hid.out hHeld.2.2.2.2.2.2.2.2).trans (hb.mono (Hid.out hHeld.2.2.2.2.2.2.2.2).size))⟩
  clear hK K
  replace hHeld := hNew
  clear hNew
  ((try simp only [Act.put]); (try simp only [List.setIfInBounds_toArray]); (try simp only [List.set_cons_succ]); (try simp only [List.set_cons_zero]))
  refine wpAnyH_take (i := 20) (oi := { dst := some 61, op := Op.field 29 (Operand.tmp 60) 0, type := 27, pos := "law.go:67", after := #[{ on := 19, ground := Ground.data }, { on := 16, ground := Ground.guard }], guard := some (16, true) }) (v := ?_) rfl (by kernel_rfl) (by kernel_rfl) (by kernel_rfl) (fun _ _ _ h => h) (Or.inl ⟨by rfl, ?_⟩) (by assumption) ?_
  rotate_left
  · (intro w hSw; (try dsimp only at hSw); go_simp; try with_reducible rfl)
  ((try simp only [Act.put]); (try simp only [List.setIfInBounds_toArray]); (try simp only [List.set_cons_succ]); (try simp only [List.set_cons_zero]))
  refine wpAnyH_ready (rs := [21]) (by kernel_rfl) (by simp) ?_
  refine AllReadyH.cons (o := { dst := some 62, op := Op.call { callee := Callee.value (Operand.func 18), args := #[Operand.tmp 61], argTypes := #[27] }, type := 40, pos := "law.go:67", after := #[{ on := 20, ground := Ground.data }, { on := 19, ground := Ground.chain }, { on := 16, ground := Ground.guard }], guard := some (16, true) }) rfl (fun K hK => ?_) AllReadyH.nil
  go_simp
  refine KK.out.mono ?_
  rintro e1 w ⟨a9, c9, rfl, hL, hb⟩
  have LL := Lib.hid hL
  clear hL KK
  try go_wp2_with fail
  refine hK.out _ _ ?_ (fun hNew => ?_)
  · first | exact hHeld | exact ⟨cell_go hHeld.1 hb, cell_go hHeld.2.1 hb, cell_go hHeld.2.2.1 hb, cell_go hHeld.2.2.2.1 hb, cell_go hHeld.2.2.2.2.1 hb, cell_go hHeld.2.2.2.2.2.1 hb, cell_go hHeld.2.2.2.2.2.2.1 hb, cell_go hHeld.2.2.2.2.2.2.2.1 hb, Lib.hid ((Hid.out hHeld.2.2.2.2.2.2.2.2).trans (hb.mono (Hid.out hHeld.2.2.2.2.2.2.2.2).size))⟩
  clear hK K
  replace hHeld := hNew
  clear hNew
  ((try simp only [Act.put]); (try simp only [List.setIfInBounds_toArray]); (try simp only [List.set_cons_succ]); (try simp only [List.set_cons_zero]))
  refine wpAnyH_ready (rs := [24]) (by kernel_rfl) (by simp) ?_
  refine AllReadyH.cons (o := { dst := some 65, op := Op.call { callee := Callee.value (Operand.func 22), args := #[Operand.tmp 63, Operand.tmp 64], argTypes := #[40, 23] }, type := 40, pos := "law.go:67", after := #[{ on := 22, ground := Ground.data }, { on := 23, ground := Ground.data }, { on := 21, ground := Ground.chain }, { on := 16, ground := Ground.guard }], guard := some (16, true) }) rfl (fun K hK => ?_) AllReadyH.nil
  go_simp
  refine (rless_any (S0.out.u1.below (Hid.out hHeld.2.2.2.2.2.2.2.2)) (by omega) HT.out rfl).mono ?_
  rintro e1 w ⟨a8, c8, rfl, hL, hb⟩
  have KK := Lib.hid (logs_any (LL.out.below hb) hL (r := true) (decide_eq_true rfl))
  clear hL LL
  try go_wp2_with fail
  refine hK.out _ _ ?_ (fun hNew => ?_)
  · first | exact hHeld | exact ⟨cell_go hHeld.1 hb, cell_go hHeld.2.1 hb, cell_go hHeld.2.2.1 hb, cell_go hHeld.2.2.2.1 hb, cell_go hHeld.2.2.2.2.1 hb, cell_go hHeld.2.2.2.2.2.1 hb, cell_go hHeld.2.2.2.2.2.2.1 hb, cell_go hHeld.2.2.2.2.2.2.2.1 hb, Lib.hid ((Hid.out hHeld.2.2.2.2.2.2.2.2).trans (hb.mono (Hid.out hHeld.2.2.2.2.2.2.2.2).size))⟩
  clear hK K
  replace hHeld := hNew
  clear hNew
  ((try simp only [Act.put]); (try simp only [List.setIfInBounds_toArray]); (try simp only [List.set_cons_succ]); (try simp only [List.set_cons_zero]))
  refine wpAnyH_ready (rs := [25]) (by kernel_rfl) (by simp) ?_
  refine AllReadyH.cons (o := { dst := some 66, op := Op.call { callee := Callee.value (Operand.func 17), args := #[Operand.tmp 62, Operand.tmp 65], argTypes := #[40, 40] }, type := 4, pos := "law.go:67", after := #[{ on := 21, ground := Ground.data }, { on := 24, ground := Ground.data }, { on := 24, ground := Ground.chain }, { on := 16, ground := Ground.guard }], guard := some (16, true) }) rfl (fun K hK => ?_) AllReadyH.nil
  go_simp
  refine KK.out.mono ?_
  rintro e1 w ⟨rfl, q9, rfl⟩
  have hb := drewN_below w q9
  clear KK
  try go_wp2_with fail
  refine hK.out _ _ ?_ (fun hNew => ?_)
  · first | exact hHeld | exact ⟨cell_go hHeld.1 hb, cell_go hHeld.2.1 hb, cell_go hHeld.2.2.1 hb, cell_go hHeld.2.2.2.1 hb, cell_go hHeld.2.2.2.2.1 hb, cell_go hHeld.2.2.2.2.2.1 hb, cell_go hHeld.2.2.2.2.2.2.1 hb, cell_go hHeld.2.2.2.2.2.2.2.1 hb, Lib.hid ((Hid.out hHeld.2.2.2.2.2.2.2.2).trans (hb.mono (Hid.out hHeld.2.2.2.2.2.2.2.2).size))⟩
  clear hK K
  replace hHeld := hNew
  clear hNew
  ((try simp only [Act.put]); (try simp only [List.setIfInBounds_toArray]); (try simp only [List.set_cons_succ]); (try simp only [List.set_cons_zero]))
  refine wpAnyH_take (i := 26) (oi := { dst := some 67, op := Op.pick (Operand.tmp 57) (Operand.tmp 66) (Operand.const (Value.bool false)), type := 4, pos := "law.go:67", after := #[{ on := 16, ground := Ground.data }, { on := 25, ground := Ground.data }], guard := none }) (v := ?_) rfl (by kernel_rfl) (by kernel_rfl) (by kernel_rfl) (fun _ _ _ h => h) (Or.inl ⟨by rfl, ?_⟩) (by assumption) ?_
  rotate_left
  · (intro w hSw; (try dsimp only at hSw); go_simp; try with_reducible rfl)
  ((try simp only [Act.put]); (try simp only [List.setIfInBounds_toArray]); (try simp only [List.set_cons_succ]); (try simp only [List.set_cons_zero]))
  refine wpAnyH_take (i := 27) (oi := { dst := some 68, op := Op.move (Operand.tmp 67), type := 4, pos := "law.go:67", after := #[{ on := 26, ground := Ground.data }, { on := 25, ground := Ground.chain }], guard := none }) (v := ?_) rfl (by kernel_rfl) (by kernel_rfl) (by kernel_rfl) (fun _ _ _ h => h) (Or.inl ⟨by rfl, ?_⟩) (by assumption) ?_
  rotate_left
  · (intro w hSw; (try dsimp only at hSw); go_simp; try with_reducible rfl)
  ((try simp only [Act.put]); (try simp only [List.setIfInBounds_toArray]); (try simp only [List.set_cons_succ]); (try simp only [List.set_cons_zero]))
  refine wpAnyH_take (i := 28) (oi := { dst := some 69, op := Op.load 29 (Operand.tmp 11), type := 29, pos := "law.go:67", after := #[{ on := 27, ground := Ground.guard }], guard := some (27, true) }) (v := ?_) rfl (by kernel_rfl) (by kernel_rfl) (by kernel_rfl) (fun _ _ _ h => h) (Or.inl ⟨by rfl, ?_⟩) (by assumption) ?_
  rotate_left
  · (intro w hSw; (try dsimp only at hSw); go_simp; try with_reducible rfl)
  ((try simp only [Act.put]); (try simp only [List.setIfInBounds_toArray]); (try simp only [List.set_cons_succ]); (try simp only [List.set_cons_zero]))
  refine wpAnyH_take (i := 29) (oi := { dst := some 70, op := Op.move (Operand.tmp 3), type := 23, pos := "law.go:67", after := #[{ on := 27, ground := Ground.guard }], guard := some (27, true) }) (v := ?_) rfl (by kernel_rfl) (by kernel_rfl) (by kernel_rfl) (fun _ _ _ h => h) (Or.inl ⟨by rfl, ?_⟩) (by assumption) ?_
  rotate_left
  · (intro w hSw; (try dsimp only at hSw); go_simp; try with_reducible rfl)
  ((try simp only [Act.put]); (try simp only [List.setIfInBounds_toArray]); (try simp only [List.set_cons_succ]); (try simp only [List.set_cons_zero]))
  refine wpAnyH_take (i := 30) (oi := { dst := some 71, op := Op.move (Operand.tmp 4), type := 3, pos := "law.go:67", after := #[{ on := 27, ground := Ground.guard }], guard := some (27, true) }) (v := ?_) rfl (by kernel_rfl) (by kernel_rfl) (by kernel_rfl) (fun _ _ _ h => h) (Or.inl ⟨by rfl, ?_⟩) (by assumption) ?_
  rotate_left
  · (intro w hSw; (try dsimp only at hSw); go_simp; try with_reducible rfl)
  ((try simp only [Act.put]); (try simp only [List.setIfInBounds_toArray]); (try simp only [List.set_cons_succ]); (try simp only [List.set_cons_zero]))
  refine wpAnyH_take (i := 34) (oi := { dst := some 75, op := Op.move (Operand.tmp 13), type := 40, pos := "law.go:67", after := #[{ on := 27, ground := Ground.guard }], guard := some (27, true) }) (v := ?_) rfl (by kernel_rfl) (by kernel_rfl) (by kernel_rfl) (fun _ _ _ h => h) (Or.inl ⟨by rfl, ?_⟩) (by assumption) ?_
  rotate_left
  · (intro w hSw; (try dsimp only at hSw); go_simp; try with_reducible rfl)
  ((try simp only [Act.put]); (try simp only [List.setIfInBounds_toArray]); (try simp only [List.set_cons_succ]); (try simp only [List.set_cons_zero]))
  refine wpAnyH_take (i := 35) (oi := { dst := some 76, op := Op.move (Operand.tmp 3), type := 23, pos := "law.go:67", after := #[{ on := 27, ground := Ground.guard }], guard := some (27, true) }) (v := ?_) rfl (by kernel_rfl) (by kernel_rfl) (by kernel_rfl) (fun _ _ _ h => h) (Or.inl ⟨by rfl, ?_⟩) (by assumption) ?_
  rotate_left
  · (intro w hSw; (try dsimp only at hSw); go_simp; try with_reducible rfl)
  ((try simp only [Act.put]); (try simp only [List.setIfInBounds_toArray]); (try simp only [List.set_cons_succ]); (try simp only [List.set_cons_zero]))
  refine wpAnyH_take (i := 36) (oi := { dst := some 77, op := Op.move (Operand.tmp 4), type := 3, pos := "law.go:67", after := #[{ on := 27, ground := Ground.guard }], guard := some (27, true) }) (v := ?_) rfl (by kernel_rfl) (by kernel_rfl) (by kernel_rfl) (fun _ _ _ h => h) (Or.inl ⟨by rfl, ?_⟩) (by assumption) ?_
  rotate_left
  · (intro w hSw; (try dsimp only at hSw); go_simp; try with_reducible rfl)
  ((try simp only [Act.put]); (try simp only [List.setIfInBounds_toArray]); (try simp only [List.set_cons_succ]); (try simp only [List.set_cons_zero]))
  refine wpAnyH_ready (rs := [31]) (by kernel_rfl) (by simp) ?_
  refine AllReadyH.cons (o := { dst := some 72, op := Op.call { callee := Callee.value (Operand.func 12), args := #[Operand.tmp 69, Operand.tmp 70, Operand.tmp 71], argTypes := #[29, 24, 3] }, type := 29, pos := "law.go:67", after := #[{ on := 28, ground := Ground.data }, { on := 29, ground := Ground.data }, { on := 30, ground := Ground.data }, { on := 27, ground := Ground.chain }, { on := 27, ground := Ground.guard }], guard := some (27, true) }) rfl (fun K hK => ?_) AllReadyH.nil
  go_simp
  refine (but_any (S0.out.m1.below (Hid.out hHeld.2.2.2.2.2.2.2.2)) (by omega) HT.out HD.out).mono ?_
  rintro e1 w ⟨a9, c9, rfl, hO, hO2, hb⟩
  have KK := Lib.hid (log1_any (hO.at hO2) (by omega))
  clear hO hO2
  try go_wp2_with fail
  refine hK.out _ _ ?_ (fun hNew => ?_)
  · first | exact hHeld | exact ⟨cell_go hHeld.1 hb, cell_go hHeld.2.1 hb, cell_go hHeld.2.2.1 hb, cell_go hHeld.2.2.2.1 hb, cell_go hHeld.2.2.2.2.1 hb, cell_go hHeld.2.2.2.2.2.1 hb, cell_go hHeld.2.2.2.2.2.2.1 hb, cell_go hHeld.2.2.2.2.2.2.2.1 hb, Lib.hid ((Hid.out hHeld.2.2.2.2.2.2.2.2).trans (hb.mono (Hid.out hHeld.2.2.2.2.2.2.2.2).size))⟩
  clear hK K
  replace hHeld := hNew
  clear hNew
  ((try simp only [Act.put]); (try simp only [List.setIfInBounds_toArray]); (try simp only [List.set_cons_succ]); (try simp only [List.set_cons_zero]))
  refine wpAnyH_take (i := 32) (oi := { dst := some 73, op := Op.field 29 (Operand.tmp 72) 0, type := 27, pos := "law.go:67", after := #[{ on := 31, ground := Ground.data }, { on := 27, ground := Ground.guard }], guard := some (27, true) }) (v := ?_) rfl (by kernel_rfl) (by kernel_rfl) (by kernel_rfl) (fun _ _ _ h => h) (Or.inl ⟨by rfl, ?_⟩) (by assumption) ?_
  rotate_left
  · (intro w hSw; (try dsimp only at hSw); go_simp; try with_reducible rfl)
  ((try simp only [Act.put]); (try simp only [List.setIfInBounds_toArray]); (try simp only [List.set_cons_succ]); (try simp only [List.set_cons_zero]))
  refine wpAnyH_ready (rs := [33]) (by kernel_rfl) (by simp) ?_
  refine AllReadyH.cons (o := { dst := some 74, op := Op.call { callee := Callee.value (Operand.func 18), args := #[Operand.tmp 73], argTypes := #[27] }, type := 40, pos := "law.go:67", after := #[{ on := 32, ground := Ground.data }, { on := 31, ground := Ground.chain }, { on := 27, ground := Ground.guard }], guard := some (27, true) }) rfl (fun K hK => ?_) AllReadyH.nil
  go_simp
  refine KK.out.mono ?_
  rintro e1 w ⟨a9, c9, rfl, hL, hb⟩
  have LL := Lib.hid hL
  clear hL KK
  try go_wp2_with fail
  refine hK.out _ _ ?_ (fun hNew => ?_)
  · first | exact hHeld | exact ⟨cell_go hHeld.1 hb, cell_go hHeld.2.1 hb, cell_go hHeld.2.2.1 hb, cell_go hHeld.2.2.2.1 hb, cell_go hHeld.2.2.2.2.1 hb, cell_go hHeld.2.2.2.2.2.1 hb, cell_go hHeld.2.2.2.2.2.2.1 hb, cell_go hHeld.2.2.2.2.2.2.2.1 hb, Lib.hid ((Hid.out hHeld.2.2.2.2.2.2.2.2).trans (hb.mono (Hid.out hHeld.2.2.2.2.2.2.2.2).size))⟩
  clear hK K
  replace hHeld := hNew
  clear hNew
  ((try simp only [Act.put]); (try simp only [List.setIfInBounds_toArray]); (try simp only [List.set_cons_succ]); (try simp only [List.set_cons_zero]))
  refine wpAnyH_ready (rs := [37]) (by kernel_rfl) (by simp) ?_
  refine AllReadyH.cons (o := { dst := some 78, op := Op.call { callee := Callee.value (Operand.func 23), args := #[Operand.tmp 75, Operand.tmp 76, Operand.tmp 77], argTypes := #[40, 23, 3] }, type := 40, pos := "law.go:67", after := #[{ on := 34, ground := Ground.data }, { on := 35, ground := Ground.data }, { on := 36, ground := Ground.data }, { on := 33, ground := Ground.chain }, { on := 27, ground := Ground.guard }], guard := some (27, true) }) rfl (fun K hK => ?_) AllReadyH.nil
  go_simp
  refine (rbut_any (S0.out.u1.below (Hid.out hHeld.2.2.2.2.2.2.2.2)) (by omega) HT.out rfl).mono ?_
  rintro e1 w ⟨a8, c8, rfl, hL, hb⟩
  have KK := Lib.hid (logs_any (LL.out.below hb) hL (r := true) (decide_eq_true rfl))
  clear hL LL
  try go_wp2_with fail
  refine hK.out _ _ ?_ (fun hNew => ?_)
  · first | exact hHeld | exact ⟨cell_go hHeld.1 hb, cell_go hHeld.2.1 hb, cell_go hHeld.2.2.1 hb, cell_go hHeld.2.2.2.1 hb, cell_go hHeld.2.2.2.2.1 hb, cell_go hHeld.2.2.2.2.2.1 hb, cell_go hHeld.2.2.2.2.2.2.1 hb, cell_go hHeld.2.2.2.2.2.2.2.1 hb, Lib.hid ((Hid.out hHeld.2.2.2.2.2.2.2.2).trans (hb.mono (Hid.out hHeld.2.2.2.2.2.2.2.2).size))⟩
  clear hK K
  replace hHeld := hNew
  clear hNew
  ((try simp only [Act.put]); (try simp only [List.setIfInBounds_toArray]); (try simp only [List.set_cons_succ]); (try simp only [List.set_cons_zero]))
  refine wpAnyH_ready (rs := [38]) (by kernel_rfl) (by simp) ?_
  refine AllReadyH.cons (o := { dst := some 79, op := Op.call { callee := Callee.value (Operand.func 17), args := #[Operand.tmp 74, Operand.tmp 78], argTypes := #[40, 40] }, type := 4, pos := "law.go:67", after := #[{ on := 33, ground := Ground.data }, { on := 37, ground := Ground.data }, { on := 37, ground := Ground.chain }, { on := 27, ground := Ground.guard }], guard := some (27, true) }) rfl (fun K hK => ?_) AllReadyH.nil
  go_simp
  refine KK.out.mono ?_
  rintro e1 w ⟨rfl, q9, rfl⟩
  have hb := drewN_below w q9
  clear KK
  try go_wp2_with fail
  refine hK.out _ _ ?_ (fun hNew => ?_)
  · first | exact hHeld | exact ⟨cell_go hHeld.1 hb, cell_go hHeld.2.1 hb, cell_go hHeld.2.2.1 hb, cell_go hHeld.2.2.2.1 hb, cell_go hHeld.2.2.2.2.1 hb, cell_go hHeld.2.2.2.2.2.1 hb, cell_go hHeld.2.2.2.2.2.2.1 hb, cell_go hHeld.2.2.2.2.2.2.2.1 hb, Lib.hid ((Hid.out hHeld.2.2.2.2.2.2.2.2).trans (hb.mono (Hid.out hHeld.2.2.2.2.2.2.2.2).size))⟩
  clear hK K
  replace hHeld := hNew
  clear hNew
  ((try simp only [Act.put]); (try simp only [List.setIfInBounds_toArray]); (try simp only [List.set_cons_succ]); (try simp only [List.set_cons_zero]))
  refine wpAnyH_take (i := 39) (oi := { dst := some 80, op := Op.pick (Operand.tmp 68) (Operand.tmp 79) (Operand.const (Value.bool false)), type := 4, pos := "law.go:67", after := #[{ on := 27, ground := Ground.data }, { on := 38, ground := Ground.data }], guard := none }) (v := ?_) rfl (by kernel_rfl) (by kernel_rfl) (by kernel_rfl) (fun _ _ _ h => h) (Or.inl ⟨by rfl, ?_⟩) (by assumption) ?_
  rotate_left
  · (intro w hSw; (try dsimp only at hSw); go_simp; try with_reducible rfl)
  ((try simp only [Act.put]); (try simp only [List.setIfInBounds_toArray]); (try simp only [List.set_cons_succ]); (try simp only [List.set_cons_zero]))
  refine wpAnyH_take (i := 40) (oi := { dst := some 81, op := Op.move (Operand.tmp 80), type := 4, pos := "law.go:67", after := #[{ on := 39, ground := Ground.data }, { on := 38, ground := Ground.chain }], guard := none }) (v := ?_) rfl (by kernel_rfl) (by kernel_rfl) (by kernel_rfl) (fun _ _ _ h => h) (Or.inl ⟨by rfl, ?_⟩) (by assumption) ?_
  rotate_left
  · (intro w hSw; (try dsimp only at hSw); go_simp; try with_reducible rfl)
  ((try simp only [Act.put]); (try simp only [List.setIfInBounds_toArray]); (try simp only [List.set_cons_succ]); (try simp only [List.set_cons_zero]))
  refine wpAnyH_take (i := 41) (oi := { dst := some 82, op := Op.load 29 (Operand.tmp 11), type := 29, pos := "law.go:67", after := #[{ on := 40, ground := Ground.guard }], guard := some (40, true) }) (v := ?_) rfl (by kernel_rfl) (by kernel_rfl) (by kernel_rfl) (fun _ _ _ h => h) (Or.inl ⟨by rfl, ?_⟩) (by assumption) ?_
  rotate_left
  · (intro w hSw; (try dsimp only at hSw); go_simp; try with_reducible rfl)
  ((try simp only [Act.put]); (try simp only [List.setIfInBounds_toArray]); (try simp only [List.set_cons_succ]); (try simp only [List.set_cons_zero]))
  refine wpAnyH_take (i := 45) (oi := { dst := some 86, op := Op.move (Operand.tmp 13), type := 40, pos := "law.go:67", after := #[{ on := 40, ground := Ground.guard }], guard := some (40, true) }) (v := ?_) rfl (by kernel_rfl) (by kernel_rfl) (by kernel_rfl) (fun _ _ _ h => h) (Or.inl ⟨by rfl, ?_⟩) (by assumption) ?_
  rotate_left
  · (intro w hSw; (try dsimp only at hSw); go_simp; try with_reducible rfl)
  ((try simp only [Act.put]); (try simp only [List.setIfInBounds_toArray]); (try simp only [List.set_cons_succ]); (try simp only [List.set_cons_zero]))
  refine wpAnyH_ready (rs := [42]) (by kernel_rfl) (by simp) ?_
  refine AllReadyH.cons (o := { dst := some 83, op := Op.call { callee := Callee.value (Operand.func 11), args := #[Operand.tmp 82], argTypes := #[29] }, type := 29, pos := "law.go:67", after := #[{ on := 41, ground := Ground.data }, { on := 40, ground := Ground.chain }, { on := 40, ground := Ground.guard }], guard := some (40, true) }) rfl (fun K hK => ?_) AllReadyH.nil
  go_simp
  refine (purge_any (S0.out.m1.below (Hid.out hHeld.2.2.2.2.2.2.2.2)) (by omega) PL.out).mono ?_
  rintro e1 w ⟨a9, c9, rfl, hO, hO2, hb⟩
  have KK := Lib.hid (log1_any (hO.at hO2) (by omega))
  clear hO hO2
  try go_wp2_with fail
  refine hK.out _ _ ?_ (fun hNew => ?_)
  · first | exact hHeld | exact ⟨cell_go hHeld.1 hb, cell_go hHeld.2.1 hb, cell_go hHeld.2.2.1 hb, cell_go hHeld.2.2.2.1 hb, cell_go hHeld.2.2.2.2.1 hb, cell_go hHeld.2.2.2.2.2.1 hb, cell_go hHeld.2.2.2.2.2.2.1 hb, cell_go hHeld.2.2.2.2.2.2.2.1 hb, Lib.hid ((Hid.out hHeld.2.2.2.2.2.2.2.2).trans (hb.mono (Hid.out hHeld.2.2.2.2.2.2.2.2).size))⟩
  clear hK K
  replace hHeld := hNew
  clear hNew
  ((try simp only [Act.put]); (try simp only [List.setIfInBounds_toArray]); (try simp only [List.set_cons_succ]); (try simp only [List.set_cons_zero]))
  refine wpAnyH_take (i := 43) (oi := { dst := some 84, op := Op.field 29 (Operand.tmp 83) 0, type := 27, pos := "law.go:67", after := #[{ on := 42, ground := Ground.data }, { on := 40, ground := Ground.guard }], guard := some (40, true) }) (v := ?_) rfl (by kernel_rfl) (by kernel_rfl) (by kernel_rfl) (fun _ _ _ h => h) (Or.inl ⟨by rfl, ?_⟩) (by assumption) ?_
  rotate_left
  · (intro w hSw; (try dsimp only at hSw); go_simp; try with_reducible rfl)
  ((try simp only [Act.put]); (try simp only [List.setIfInBounds_toArray]); (try simp only [List.set_cons_succ]); (try simp only [List.set_cons_zero]))
  refine wpAnyH_ready (rs := [44]) (by kernel_rfl) (by simp) ?_
  refine AllReadyH.cons (o := { dst := some 85, op := Op.call { callee := Callee.value (Operand.func 18), args := #[Operand.tmp 84], argTypes := #[27] }, type := 40, pos := "law.go:67", after := #[{ on := 43, ground := Ground.data }, { on := 42, ground := Ground.chain }, { on := 40, ground := Ground.guard }], guard := some (40, true) }) rfl (fun K hK => ?_) AllReadyH.nil
  go_simp
  refine KK.out.mono ?_
  rintro e1 w ⟨a9, c9, rfl, hL, hb⟩
  have LL := Lib.hid hL
  clear hL KK
  try go_wp2_with fail
  refine hK.out _ _ ?_ (fun hNew => ?_)
  · first | exact hHeld | exact ⟨cell_go hHeld.1 hb, cell_go hHeld.2.1 hb, cell_go hHeld.2.2.1 hb, cell_go hHeld.2.2.2.1 hb, cell_go hHeld.2.2.2.2.1 hb, cell_go hHeld.2.2.2.2.2.1 hb, cell_go hHeld.2.2.2.2.2.2.1 hb, cell_go hHeld.2.2.2.2.2.2.2.1 hb, Lib.hid ((Hid.out hHeld.2.2.2.2.2.2.2.2).trans (hb.mono (Hid.out hHeld.2.2.2.2.2.2.2.2).size))⟩
  clear hK K
  replace hHeld := hNew
  clear hNew
  ((try simp only [Act.put]); (try simp only [List.setIfInBounds_toArray]); (try simp only [List.set_cons_succ]); (try simp only [List.set_cons_zero]))
  refine wpAnyH_ready (rs := [46]) (by kernel_rfl) (by simp) ?_
  refine AllReadyH.cons (o := { dst := some 87, op := Op.call { callee := Callee.value (Operand.func 24), args := #[Operand.tmp 86], argTypes := #[40] }, type := 40, pos := "law.go:67", after := #[{ on := 45, ground := Ground.data }, { on := 44, ground := Ground.chain }, { on := 40, ground := Ground.guard }], guard := some (40, true) }) rfl (fun K hK => ?_) AllReadyH.nil
  go_simp
  refine (rpurge_any (S0.out.u1.below (Hid.out hHeld.2.2.2.2.2.2.2.2)) (by omega) rfl).mono ?_
  rintro e1 w ⟨a8, c8, rfl, hL, hb⟩
  have KK := Lib.hid (logs_any (LL.out.below hb) hL (r := true) (decide_eq_true rfl))
  clear hL LL
  try go_wp2_with fail
  refine hK.out _ _ ?_ (fun hNew => ?_)
  · first | exact hHeld | exact ⟨cell_go hHeld.1 hb, cell_go hHeld.2.1 hb, cell_go hHeld.2.2.1 hb, cell_go hHeld.2.2.2.1 hb, cell_go hHeld.2.2.2.2.1 hb, cell_go hHeld.2.2.2.2.2.1 hb, cell_go hHeld.2.2.2.2.2.2.1 hb, cell_go hHeld.2.2.2.2.2.2.2.1 hb, Lib.hid ((Hid.out hHeld.2.2.2.2.2.2.2.2).trans (hb.mono (Hid.out hHeld.2.2.2.2.2.2.2.2).size))⟩
  clear hK K
  replace hHeld := hNew
  clear hNew
  ((try simp only [Act.put]); (try simp only [List.setIfInBounds_toArray]); (try simp only [List.set_cons_succ]); (try simp only [List.set_cons_zero]))
  refine wpAnyH_ready (rs := [47]) (by kernel_rfl) (by simp) ?_
  refine AllReadyH.cons (o := { dst := some 88, op := Op.call { callee := Callee.value (Operand.func 17), args := #[Operand.tmp 85, Operand.tmp 87], argTypes := #[40, 40] }, type := 4, pos := "law.go:67", after := #[{ on := 44, ground := Ground.data }, { on := 46, ground := Ground.data }, { on := 46, ground := Ground.chain }, { on := 40, ground := Ground.guard }], guard := some (40, true) }) rfl (fun K hK => ?_) AllReadyH.nil
  go_simp
  refine KK.out.mono ?_
  rintro e1 w ⟨rfl, q9, rfl⟩
  have hb := drewN_below w q9
  clear KK
  try go_wp2_with fail
  refine hK.out _ _ ?_ (fun hNew => ?_)
  · first | exact hHeld | exact ⟨cell_go hHeld.1 hb, cell_go hHeld.2.1 hb, cell_go hHeld.2.2.1 hb, cell_go hHeld.2.2.2.1 hb, cell_go hHeld.2.2.2.2.1 hb, cell_go hHeld.2.2.2.2.2.1 hb, cell_go hHeld.2.2.2.2.2.2.1 hb, cell_go hHeld.2.2.2.2.2.2.2.1 hb, Lib.hid ((Hid.out hHeld.2.2.2.2.2.2.2.2).trans (hb.mono (Hid.out hHeld.2.2.2.2.2.2.2.2).size))⟩
  clear hK K
  replace hHeld := hNew
  clear hNew
  ((try simp only [Act.put]); (try simp only [List.setIfInBounds_toArray]); (try simp only [List.set_cons_succ]); (try simp only [List.set_cons_zero]))
  refine wpAnyH_take (i := 48) (oi := { dst := some 89, op := Op.pick (Operand.tmp 81) (Operand.tmp 88) (Operand.const (Value.bool false)), type := 4, pos := "law.go:67", after := #[{ on := 40, ground := Ground.data }, { on := 47, ground := Ground.data }], guard := none }) (v := ?_) rfl (by kernel_rfl) (by kernel_rfl) (by kernel_rfl) (fun _ _ _ h => h) (Or.inl ⟨by rfl, ?_⟩) (by assumption) ?_
  rotate_left
  · (intro w hSw; (try dsimp only at hSw); go_simp; try with_reducible rfl)
  ((try simp only [Act.put]); (try simp only [List.setIfInBounds_toArray]); (try simp only [List.set_cons_succ]); (try simp only [List.set_cons_zero]))
  refine wpAnyH_take (i := 49) (oi := { dst := some 90, op := Op.move (Operand.tmp 89), type := 4, pos := "law.go:67", after := #[{ on := 48, ground := Ground.data }, { on := 47, ground := Ground.chain }], guard := none }) (v := ?_) rfl (by kernel_rfl) (by kernel_rfl) (by kernel_rfl) (fun _ _ _ h => h) (Or.inl ⟨by rfl, ?_⟩) (by assumption) ?_
  rotate_left
  · (intro w hSw; (try dsimp only at hSw); go_simp; try with_reducible rfl)
  ((try simp only [Act.put]); (try simp only [List.setIfInBounds_toArray]); (try simp only [List.set_cons_succ]); (try simp only [List.set_cons_zero]))
  refine wpAnyH_take (i := 50) (oi := { dst := some 91, op := Op.load 29 (Operand.tmp 11), type := 29, pos := "law.go:67", after := #[{ on := 49, ground := Ground.guard }], guard := some (49, true) }) (v := ?_) rfl (by kernel_rfl) (by kernel_rfl) (by kernel_rfl) (fun _ _ _ h => h) (Or.inl ⟨by rfl, ?_⟩) (by assumption) ?_
  rotate_left
  · (intro w hSw; (try dsimp only at hSw); go_simp; try with_reducible rfl)
  ((try simp only [Act.put]); (try simp only [List.setIfInBounds_toArray]); (try simp only [List.set_cons_succ]); (try simp only [List.set_cons_zero]))
  refine wpAnyH_take (i := 51) (oi := { dst := some 92, op := Op.load 29 (Operand.tmp 12), type := 29, pos := "law.go:67", after := #[{ on := 49, ground := Ground.guard }], guard := some (49, true) }) (v := ?_) rfl (by kernel_rfl) (by kernel_rfl) (by kernel_rfl) (fun _ _ _ h => h) (Or.inl ⟨by rfl, ?_⟩) (by assumption) ?_
  rotate_left
  · (intro w hSw; (try dsimp only at hSw); go_simp; try with_reducible rfl)
  ((try simp only [Act.put]); (try simp only [List.setIfInBounds_toArray]); (try simp only [List.set_cons_succ]); (try simp only [List.set_cons_zero]))
  refine wpAnyH_take (i := 55) (oi := { dst := some 96, op := Op.move (Operand.tmp 13), type := 40, pos := "law.go:67", after := #[{ on := 49, ground := Ground.guard }], guard := some (49, true) }) (v := ?_) rfl (by kernel_rfl) (by kernel_rfl) (by kernel_rfl) (fun _ _ _ h => h) (Or.inl ⟨by rfl, ?_⟩) (by assumption) ?_
  rotate_left
  · (intro w hSw; (try dsimp only at hSw); go_simp; try with_reducible rfl)
  ((try simp only [Act.put]); (try simp only [List.setIfInBounds_toArray]); (try simp only [List.set_cons_succ]); (try simp only [List.set_cons_zero]))
  refine wpAnyH_take (i := 56) (oi := { dst := some 97, op := Op.move (Operand.tmp 14), type := 40, pos := "law.go:67", after := #[{ on := 49, ground := Ground.guard }], guard := some (49, true) }) (v := ?_) rfl (by kernel_rfl) (by kernel_rfl) (by kernel_rfl) (fun _ _ _ h => h) (Or.inl ⟨by rfl, ?_⟩) (by assumption) ?_
  rotate_left
  · (intro w hSw; (try dsimp only at hSw); go_simp; try with_reducible rfl)
  ((try simp only [Act.put]); (try simp only [List.setIfInBounds_toArray]); (try simp only [List.set_cons_succ]); (try simp only [List.set_cons_zero]))
  refine wpAnyH_ready (rs := [52]) (by kernel_rfl) (by simp) ?_
  refine AllReadyH.cons (o := { dst := some 93, op := Op.call { callee := Callee.value (Operand.func 14), args := #[Operand.tmp 91, Operand.tmp 92], argTypes := #[29, 29] }, type := 29, pos := "law.go:67", after := #[{ on := 50, ground := Ground.data }, { on := 51, ground := Ground.data }, { on := 49, ground := Ground.chain }, { on := 49, ground := Ground.guard }], guard := some (49, true) }) rfl (fun K hK => ?_) AllReadyH.nil
  go_simp
  refine (join_any (S0.out.m1.below (Hid.out hHeld.2.2.2.2.2.2.2.2)) (S0.out.m2.below (Hid.out hHeld.2.2.2.2.2.2.2.2)) (by omega) (by omega) JL.out).mono ?_
  rintro e1 w ⟨a9, c9, rfl, hO, hO2, hb⟩
  have KK := Lib.hid (log1_any (hO.at hO2) (by omega))
  clear hO hO2
  try go_wp2_with fail
  refine hK.out _ _ ?_ (fun hNew => ?_)
  · first | exact hHeld | exact ⟨cell_go hHeld.1 hb, cell_go hHeld.2.1 hb, cell_go hHeld.2.2.1 hb, cell_go hHeld.2.2.2.1 hb, cell_go hHeld.2.2.2.2.1 hb, cell_go hHeld.2.2.2.2.2.1 hb, cell_go hHeld.2.2.2.2.2.2.1 hb, cell_go hHeld.2.2.2.2.2.2.2.1 hb, Lib.hid ((Hid.out hHeld.2.2.2.2.2.2.2.2).trans (hb.mono (Hid.out hHeld.2.2.2.2.2.2.2.2).size))⟩
  clear hK K
  replace hHeld := hNew
  clear hNew
  ((try simp only [Act.put]); (try simp only [List.setIfInBounds_toArray]); (try simp only [List.set_cons_succ]); (try simp only [List.set_cons_zero]))
  refine wpAnyH_take (i := 53) (oi := { dst := some 94, op := Op.field 29 (Operand.tmp 93) 0, type := 27, pos := "law.go:67", after := #[{ on := 52, ground := Ground.data }, { on := 49, ground := Ground.guard }], guard := some (49, true) }) (v := ?_) rfl (by kernel_rfl) (by kernel_rfl) (by kernel_rfl) (fun _ _ _ h => h) (Or.inl ⟨by rfl, ?_⟩) (by assumption) ?_
  rotate_left
  · (intro w hSw; (try dsimp only at hSw); go_simp; try with_reducible rfl)
  ((try simp only [Act.put]); (try simp only [List.setIfInBounds_toArray]); (try simp only [List.set_cons_succ]); (try simp only [List.set_cons_zero]))
  refine wpAnyH_ready (rs := [54]) (by kernel_rfl) (by simp) ?_
  refine AllReadyH.cons (o := { dst := some 95, op := Op.call { callee := Callee.value (Operand.func 18), args := #[Operand.tmp 94], argTypes := #[27] }, type := 40, pos := "law.go:67", after := #[{ on := 53, ground := Ground.data }, { on := 52, ground := Ground.chain }, { on := 49, ground := Ground.guard }], guard := some (49, true) }) rfl (fun K hK => ?_) AllReadyH.nil
  go_simp
  refine KK.out.mono ?_
  rintro e1 w ⟨a9, c9, rfl, hL, hb⟩
  have LL := Lib.hid hL
  clear hL KK
  try go_wp2_with fail
  refine hK.out _ _ ?_ (fun hNew => ?_)
  · first | exact hHeld | exact ⟨cell_go hHeld.1 hb, cell_go hHeld.2.1 hb, cell_go hHeld.2.2.1 hb, cell_go hHeld.2.2.2.1 hb, cell_go hHeld.2.2.2.2.1 hb, cell_go hHeld.2.2.2.2.2.1 hb, cell_go hHeld.2.2.2.2.2.2.1 hb, cell_go hHeld.2.2.2.2.2.2.2.1 hb, Lib.hid ((Hid.out hHeld.2.2.2.2.2.2.2.2).trans (hb.mono (Hid.out hHeld.2.2.2.2.2.2.2.2).size))⟩
  clear hK K
  replace hHeld := hNew
  clear hNew
  ((try simp only [Act.put]); (try simp only [List.setIfInBounds_toArray]); (try simp only [List.set_cons_succ]); (try simp only [List.set_cons_zero]))
  refine wpAnyH_ready (rs := [57]) (by kernel_rfl) (by simp) ?_
  refine AllReadyH.cons (o := { dst := some 98, op := Op.call { callee := Callee.value (Operand.func 25), args := #[Operand.tmp 96, Operand.tmp 97], argTypes := #[40, 40] }, type := 40, pos := "law.go:67", after := #[{ on := 55, ground := Ground.data }, { on := 56, ground := Ground.data }, { on := 54, ground := Ground.chain }, { on := 49, ground := Ground.guard }], guard := some (49, true) }) rfl (fun K hK => ?_) AllReadyH.nil
  go_simp
  refine (rjoin_any (S0.out.u1.below (Hid.out hHeld.2.2.2.2.2.2.2.2)) (S0.out.u2.below (Hid.out hHeld.2.2.2.2.2.2.2.2)) (by omega) (by omega) rfl).mono ?_
  rintro e1 w ⟨a8, c8, rfl, hL, hb⟩
  have KK := Lib.hid (logs_any (LL.out.below hb) hL (r := true) (decide_eq_true rfl))
  clear hL LL
  try go_wp2_with fail
  refine hK.out _ _ ?_ (fun hNew => ?_)
  · first | exact hHeld | exact ⟨cell_go hHeld.1 hb, cell_go hHeld.2.1 hb, cell_go hHeld.2.2.1 hb, cell_go hHeld.2.2.2.1 hb, cell_go hHeld.2.2.2.2.1 hb, cell_go hHeld.2.2.2.2.2.1 hb, cell_go hHeld.2.2.2.2.2.2.1 hb, cell_go hHeld.2.2.2.2.2.2.2.1 hb, Lib.hid ((Hid.out hHeld.2.2.2.2.2.2.2.2).trans (hb.mono (Hid.out hHeld.2.2.2.2.2.2.2.2).size))⟩
  clear hK K
  replace hHeld := hNew
  clear hNew
  ((try simp only [Act.put]); (try simp only [List.setIfInBounds_toArray]); (try simp only [List.set_cons_succ]); (try simp only [List.set_cons_zero]))
  refine wpAnyH_ready (rs := [58]) (by kernel_rfl) (by simp) ?_
  refine AllReadyH.cons (o := { dst := some 99, op := Op.call { callee := Callee.value (Operand.func 17), args := #[Operand.tmp 95, Operand.tmp 98], argTypes := #[40, 40] }, type := 4, pos := "law.go:67", after := #[{ on := 54, ground := Ground.data }, { on := 57, ground := Ground.data }, { on := 57, ground := Ground.chain }, { on := 49, ground := Ground.guard }], guard := some (49, true) }) rfl (fun K hK => ?_) AllReadyH.nil
  go_simp
  refine KK.out.mono ?_
  rintro e1 w ⟨rfl, q9, rfl⟩
  have hb := drewN_below w q9
  clear KK
  try go_wp2_with fail
  refine hK.out _ _ ?_ (fun hNew => ?_)
  · first | exact hHeld | exact ⟨cell_go hHeld.1 hb, cell_go hHeld.2.1 hb, cell_go hHeld.2.2.1 hb, cell_go hHeld.2.2.2.1 hb, cell_go hHeld.2.2.2.2.1 hb, cell_go hHeld.2.2.2.2.2.1 hb, cell_go hHeld.2.2.2.2.2.2.1 hb, cell_go hHeld.2.2.2.2.2.2.2.1 hb, Lib.hid ((Hid.out hHeld.2.2.2.2.2.2.2.2).trans (hb.mono (Hid.out hHeld.2.2.2.2.2.2.2.2).size))⟩
  clear hK K
  replace hHeld := hNew
  clear hNew
  ((try simp only [Act.put]); (try simp only [List.setIfInBounds_toArray]); (try simp only [List.set_cons_succ]); (try simp only [List.set_cons_zero]))
  refine wpAnyH_take (i := 59) (oi := { dst := some 100, op := Op.pick (Operand.tmp 90) (Operand.tmp 99) (Operand.const (Value.bool false)), type := 4, pos := "law.go:67", after := #[{ on := 49, ground := Ground.data }, { on := 58, ground := Ground.data }], guard := none }) (v := ?_) rfl (by kernel_rfl) (by kernel_rfl) (by kernel_rfl) (fun _ _ _ h => h) (Or.inl ⟨by rfl, ?_⟩) (by assumption) ?_
  rotate_left
  · (intro w hSw; (try dsimp only at hSw); go_simp; try with_reducible rfl)
  ((try simp only [Act.put]); (try simp only [List.setIfInBounds_toArray]); (try simp only [List.set_cons_succ]); (try simp only [List.set_cons_zero]))
  refine wpAnyH_take (i := 60) (oi := { dst := some 101, op := Op.move (Operand.tmp 100), type := 4, pos := "law.go:67", after := #[{ on := 59, ground := Ground.data }, { on := 58, ground := Ground.chain }], guard := none }) (v := ?_) rfl (by kernel_rfl) (by kernel_rfl) (by kernel_rfl) (fun _ _ _ h => h) (Or.inl ⟨by rfl, ?_⟩) (by assumption) ?_
  rotate_left
  · (intro w hSw; (try dsimp only at hSw); go_simp; try with_reducible rfl)
  ((try simp only [Act.put]); (try simp only [List.setIfInBounds_toArray]); (try simp only [List.set_cons_succ]); (try simp only [List.set_cons_zero]))
  refine wpAnyH_take (i := 61) (oi := { dst := some 102, op := Op.load 29 (Operand.tmp 11), type := 29, pos := "law.go:67", after := #[{ on := 60, ground := Ground.guard }], guard := some (60, true) }) (v := ?_) rfl (by kernel_rfl) (by kernel_rfl) (by kernel_rfl) (fun _ _ _ h => h) (Or.inl ⟨by rfl, ?_⟩) (by assumption) ?_
  rotate_left
  · (intro w hSw; (try dsimp only at hSw); go_simp; try with_reducible rfl)
  ((try simp only [Act.put]); (try simp only [List.setIfInBounds_toArray]); (try simp only [List.set_cons_succ]); (try simp only [List.set_cons_zero]))
  refine wpAnyH_take (i := 64) (oi := { dst := some 105, op := Op.move (Operand.tmp 13), type := 40, pos := "law.go:67", after := #[{ on := 60, ground := Ground.guard }], guard := some (60, true) }) (v := ?_) rfl (by kernel_rfl) (by kernel_rfl) (by kernel_rfl) (fun _ _ _ h => h) (Or.inl ⟨by rfl, ?_⟩) (by assumption) ?_
  rotate_left
  · (intro w hSw; (try dsimp only at hSw); go_simp; try with_reducible rfl)
  ((try simp only [Act.put]); (try simp only [List.setIfInBounds_toArray]); (try simp only [List.set_cons_succ]); (try simp only [List.set_cons_zero]))
  refine wpAnyH_ready (rs := [62]) (by kernel_rfl) (by simp) ?_
  refine AllReadyH.cons (o := { dst := some 103, op := Op.call { callee := Callee.value (Operand.func 16), args := #[Operand.tmp 102], argTypes := #[29] }, type := 37, pos := "law.go:67", after := #[{ on := 61, ground := Ground.data }, { on := 60, ground := Ground.chain }, { on := 60, ground := Ground.guard }], guard := some (60, true) }) rfl (fun K hK => ?_) AllReadyH.nil
  go_simp
  refine (tput_any (S0.out.m1.below (Hid.out hHeld.2.2.2.2.2.2.2.2)) (by omega) PP.out).mono ?_
  rintro e1 w ⟨a9, c9, rfl, hS, hb, -⟩
  have SP := Lib.hid hS
  clear hS
  try go_wp2_with fail
  refine hK.out _ _ ?_ (fun hNew => ?_)
  · first | exact hHeld | exact ⟨cell_go hHeld.1 hb, cell_go hHeld.2.1 hb, cell_go hHeld.2.2.1 hb, cell_go hHeld.2.2.2.1 hb, cell_go hHeld.2.2.2.2.1 hb, cell_go hHeld.2.2.2.2.2.1 hb, cell_go hHeld.2.2.2.2.2.2.1 hb, cell_go hHeld.2.2.2.2.2.2.2.1 hb, Lib.hid ((Hid.out hHeld.2.2.2.2.2.2.2.2).trans (hb.mono (Hid.out hHeld.2.2.2.2.2.2.2.2).size))⟩
  clear hK K
  replace hHeld := hNew
  clear hNew
  ((try simp only [Act.put]); (try simp only [List.setIfInBounds_toArray]); (try simp only [List.set_cons_succ]); (try simp only [List.set_cons_zero]))
  refine wpAnyH_ready (rs := [63, 65]) (by kernel_rfl) (by simp) ?_
  refine AllReadyH.cons (o := { dst := some 104, op := Op.convert 37 9 (Operand.tmp 103), type := 9, pos := "law.go:67", after := #[{ on := 62, ground := Ground.data }, { on := 60, ground := Ground.guard }], guard := some (60, true) }) rfl (fun K hK => ?_) (AllReadyH.cons (o := { dst := some 106, op := Op.call { callee := Callee.value (Operand.func 26), args := #[Operand.tmp 105], argTypes := #[40] }, type := 37, pos := "law.go:67", after := #[{ on := 64, ground := Ground.data }, { on := 62, ground := Ground.chain }, { on := 60, ground := Ground.guard }], guard := some (60, true) }) rfl (fun K hK => ?_) AllReadyH.nil)
  · skip
    have cv := conv_any SP.out rfl
    go_simp
    clear cv
    try go_wp2_with fail
    refine hK.out _ _ ?_ (fun hNew => ?_)
    · first | exact hHeld | exact ⟨cell_go hHeld.1 hb, cell_go hHeld.2.1 hb, cell_go hHeld.2.2.1 hb, cell_go hHeld.2.2.2.1 hb, cell_go hHeld.2.2.2.2.1 hb, cell_go hHeld.2.2.2.2.2.1 hb, cell_go hHeld.2.2.2.2.2.2.1 hb, cell_go hHeld.2.2.2.2.2.2.2.1 hb, Lib.hid ((Hid.out hHeld.2.2.2.2.2.2.2.2).trans (hb.mono (Hid.out hHeld.2.2.2.2.2.2.2.2).size))⟩
    clear hK K
    replace hHeld := hNew
    clear hNew
    ((try simp only [Act.put]); (try simp only [List.setIfInBounds_toArray]); (try simp only [List.set_cons_succ]); (try simp only [List.set_cons_zero]))
    refine wpAnyH_ready (rs := [65]) (by kernel_rfl) (by simp) ?_
    refine AllReadyH.cons (o := { dst := some 106, op := Op.call { callee := Callee.value (Operand.func 26), args := #[Operand.tmp 105], argTypes := #[40] }, type := 37, pos := "law.go:67", after := #[{ on := 64, ground := Ground.data }, { on := 62, ground := Ground.chain }, { on := 60, ground := Ground.guard }], guard := some (60, true) }) rfl (fun K hK => ?_) AllReadyH.nil
    go_simp
    refine (rputl_any (S0.out.u1.below (Hid.out hHeld.2.2.2.2.2.2.2.2)) (by omega) PP.out).mono ?_
    rintro e1 w ⟨a8, c8, rfl, hS, hb, -⟩
    have SQ := Lib.hid hS
    replace SP := Lib.hid (SP.out.below hb)
    clear hS
    try go_wp2_with fail
    refine hK.out _ _ ?_ (fun hNew => ?_)
    · first | exact hHeld | exact ⟨cell_go hHeld.1 hb, cell_go hHeld.2.1 hb, cell_go hHeld.2.2.1 hb, cell_go hHeld.2.2.2.1 hb, cell_go hHeld.2.2.2.2.1 hb, cell_go hHeld.2.2.2.2.2.1 hb, cell_go hHeld.2.2.2.2.2.2.1 hb, cell_go hHeld.2.2.2.2.2.2.2.1 hb, Lib.hid ((Hid.out hHeld.2.2.2.2.2.2.2.2).trans (hb.mono (Hid.out hHeld.2.2.2.2.2.2.2.2).size))⟩
    clear hK K
    replace hHeld := hNew
    clear hNew
    ((try simp only [Act.put]); (try simp only [List.setIfInBounds_toArray]); (try simp only [List.set_cons_succ]); (try simp only [List.set_cons_zero]))
    refine wpAnyH_ready (rs := [66]) (by kernel_rfl) (by simp) ?_
    refine AllReadyH.cons (o := { dst := some 107, op := Op.convert 37 9 (Operand.tmp 106), type := 9, pos := "law.go:67", after := #[{ on := 65, ground := Ground.data }, { on := 60, ground := Ground.guard }], guard := some (60, true) }) rfl (fun K hK => ?_) AllReadyH.nil
    have cv := conv_any SQ.out rfl
    go_simp
    clear cv
    try go_wp2_with fail
    refine hK.out _ _ ?_ (fun hNew => ?_)
    · first | exact hHeld | exact ⟨cell_go hHeld.1 hb, cell_go hHeld.2.1 hb, cell_go hHeld.2.2.1 hb, cell_go hHeld.2.2.2.1 hb, cell_go hHeld.2.2.2.2.1 hb, cell_go hHeld.2.2.2.2.2.1 hb, cell_go hHeld.2.2.2.2.2.2.1 hb, cell_go hHeld.2.2.2.2.2.2.2.1 hb, Lib.hid ((Hid.out hHeld.2.2.2.2.2.2.2.2).trans (hb.mono (Hid.out hHeld.2.2.2.2.2.2.2.2).size))⟩
    clear hK K
    replace hHeld := hNew
    clear hNew
    ((try simp only [Act.put]); (try simp only [List.setIfInBounds_toArray]); (try simp only [List.set_cons_succ]); (try simp only [List.set_cons_zero]))
    refine wpAnyH_take (i := 67) (oi := { dst := some 108, op := Op.binOp BinOp.eql 9 (Operand.tmp 104) (Operand.tmp 107) 9, type := 4, pos := "law.go:67", after := #[{ on := 63, ground := Ground.data }, { on := 66, ground := Ground.data }, { on := 60, ground := Ground.guard }], guard := some (60, true) }) (v := ?_) rfl (by kernel_rfl) (by kernel_rfl) (by kernel_rfl) (fun _ _ _ h => h) (Or.inl ⟨by rfl, ?_⟩) (by assumption) ?_
    rotate_left
    · (intro w hSw; (try dsimp only at hSw); go_simp; try with_reducible rfl)
    ((try simp only [Act.put]); (try simp only [List.setIfInBounds_toArray]); (try simp only [List.set_cons_succ]); (try simp only [List.set_cons_zero]))
    refine wpAnyH_take (i := 68) (oi := { dst := some 109, op := Op.pick (Operand.tmp 101) (Operand.tmp 108) (Operand.const (Value.bool false)), type := 4, pos := "law.go:67", after := #[{ on := 60, ground := Ground.data }, { on := 67, ground := Ground.data }], guard := none }) (v := ?_) rfl (by kernel_rfl) (by kernel_rfl) (by kernel_rfl) (fun _ _ _ h => h) (Or.inl ⟨by rfl, ?_⟩) (by assumption) ?_
    rotate_left
    · (intro w hSw; (try dsimp only at hSw); go_simp; try with_reducible rfl)
    ((try simp only [Act.put]); (try simp only [List.setIfInBounds_toArray]); (try simp only [List.set_cons_succ]); (try simp only [List.set_cons_zero]))
    refine wpAnyH_take (i := 69) (oi := { dst := some 10, op := Op.assign (Operand.tmp 109), type := 4, pos := "law.go:67", after := #[{ on := 68, ground := Ground.data }, { on := 65, ground := Ground.chain }, { on := 0, ground := Ground.phase }, { on := 1, ground := Ground.phase }, { on := 2, ground := Ground.phase }, { on := 3, ground := Ground.phase }, { on := 4, ground := Ground.phase }, { on := 5, ground := Ground.phase }, { on := 6, ground := Ground.phase }, { on := 7, ground := Ground.phase }, { on := 8, ground := Ground.phase }, { on := 9, ground := Ground.phase }, { on := 10, ground := Ground.phase }, { on := 11, ground := Ground.phase }, { on := 12, ground := Ground.phase }, { on := 13, ground := Ground.phase }, { on := 14, ground := Ground.phase }, { on := 15, ground := Ground.phase }, { on := 16, ground := Ground.phase }, { on := 17, ground := Ground.phase }, { on := 18, ground := Ground.phase }, { on := 19, ground := Ground.phase }, { on := 20, ground := Ground.phase }, { on := 21, ground := Ground.phase }, { on := 22, ground := Ground.phase }, { on := 23, ground := Ground.phase }, { on := 24, ground := Ground.phase }, { on := 25, ground := Ground.phase }, { on := 26, ground := Ground.phase }, { on := 27, ground := Ground.phase }, { on := 28, ground := Ground.phase }, { on := 29, ground := Ground.phase }, { on := 30, ground := Ground.phase }, { on := 31, ground := Ground.phase }, { on := 32, ground := Ground.phase }, { on := 33, ground := Ground.phase }, { on := 34, ground := Ground.phase }, { on := 35, ground := Ground.phase }, { on := 36, ground := Ground.phase }, { on := 37, ground := Ground.phase }, { on := 38, ground := Ground.phase }, { on := 39, ground := Ground.phase }, { on := 40, ground := Ground.phase }, { on := 41, ground := Ground.phase }, { on := 42, ground := Ground.phase }, { on := 43, ground := Ground.phase }, { on := 44, ground := Ground.phase }, { on := 45, ground := Ground.phase }, { on := 46, ground := Ground.phase }, { on := 47, ground := Ground.phase }, { on := 48, ground := Ground.phase }, { on := 49, ground := Ground.phase }, { on := 50, ground := Ground.phase }, { on := 51, ground := Ground.phase }, { on := 52, ground := Ground.phase }, { on := 53, ground := Ground.phase }, { on := 54, ground := Ground.phase }, { on := 55, ground := Ground.phase }, { on := 56, ground := Ground.phase }, { on := 57, ground := Ground.phase }, { on := 58, ground := Ground.phase }, { on := 59, ground := Ground.phase }, { on := 60, ground := Ground.phase }, { on := 61, ground := Ground.phase }, { on := 62, ground := Ground.phase }, { on := 63, ground := Ground.phase }, { on := 64, ground := Ground.phase }, { on := 65, ground := Ground.phase }, { on := 66, ground := Ground.phase }, { on := 67, ground := Ground.phase }, { on := 68, ground := Ground.phase }], guard := none }) (v := ?_) rfl (by kernel_rfl) (by kernel_rfl) (by kernel_rfl) (fun _ _ _ h => h) (Or.inl ⟨by rfl, ?_⟩) (by assumption) ?_
    rotate_left
    · (intro w hSw; (try dsimp only at hSw); go_simp; try with_reducible rfl)
    ((try simp only [Act.put]); (try simp only [List.setIfInBounds_toArray]); (try simp only [List.set_cons_succ]); (try simp only [List.set_cons_zero]))
    refine wpAnyH_done (by kernel_rfl) ?_ _
    refine NoPanic.normal ?_
    have BF := Lib.hid (Hid.out hHeld.2.2.2.2.2.2.2.2)
    clear hHeld
    go_wp2_with fail
    go_ret
    exact ⟨rfl, S0.out.b.trans (BF.out.mono S0.out.b.size)⟩
  · skip
    go_simp
    refine (rputl_any (S0.out.u1.below (Hid.out hHeld.2.2.2.2.2.2.2.2)) (by omega) PP.out).mono ?_
    rintro e1 w ⟨a8, c8, rfl, hS, hb, -⟩
    have SQ := Lib.hid hS
    replace SP := Lib.hid (SP.out.below hb)
    clear hS
    try go_wp2_with fail
    refine hK.out _ _ ?_ (fun hNew => ?_)
    · first | exact hHeld | exact ⟨cell_go hHeld.1 hb, cell_go hHeld.2.1 hb, cell_go hHeld.2.2.1 hb, cell_go hHeld.2.2.2.1 hb, cell_go hHeld.2.2.2.2.1 hb, cell_go hHeld.2.2.2.2.2.1 hb, cell_go hHeld.2.2.2.2.2.2.1 hb, cell_go hHeld.2.2.2.2.2.2.2.1 hb, Lib.hid ((Hid.out hHeld.2.2.2.2.2.2.2.2).trans (hb.mono (Hid.out hHeld.2.2.2.2.2.2.2.2).size))⟩
    clear hK K
    replace hHeld := hNew
    clear hNew
    ((try simp only [Act.put]); (try simp only [List.setIfInBounds_toArray]); (try simp only [List.set_cons_succ]); (try simp only [List.set_cons_zero]))
    refine wpAnyH_ready (rs := [63, 66]) (by kernel_rfl) (by simp) ?_
    refine AllReadyH.cons (o := { dst := some 104, op := Op.convert 37 9 (Operand.tmp 103), type := 9, pos := "law.go:67", after := #[{ on := 62, ground := Ground.data }, { on := 60, ground := Ground.guard }], guard := some (60, true) }) rfl (fun K hK => ?_) (AllReadyH.cons (o := { dst := some 107, op := Op.convert 37 9 (Operand.tmp 106), type := 9, pos := "law.go:67", after := #[{ on := 65, ground := Ground.data }, { on := 60, ground := Ground.guard }], guard := some (60, true) }) rfl (fun K hK => ?_) AllReadyH.nil)
    · skip
      have cv := conv_any SP.out rfl
      go_simp
      clear cv
      try go_wp2_with fail
      refine hK.out _ _ ?_ (fun hNew => ?_)
      · first | exact hHeld | exact ⟨cell_go hHeld.1 hb, cell_go hHeld.2.1 hb, cell_go hHeld.2.2.1 hb, cell_go hHeld.2.2.2.1 hb, cell_go hHeld.2.2.2.2.1 hb, cell_go hHeld.2.2.2.2.2.1 hb, cell_go hHeld.2.2.2.2.2.2.1 hb, cell_go hHeld.2.2.2.2.2.2.2.1 hb, Lib.hid ((Hid.out hHeld.2.2.2.2.2.2.2.2).trans (hb.mono (Hid.out hHeld.2.2.2.2.2.2.2.2).size))⟩
      clear hK K
      replace hHeld := hNew
      clear hNew
      ((try simp only [Act.put]); (try simp only [List.setIfInBounds_toArray]); (try simp only [List.set_cons_succ]); (try simp only [List.set_cons_zero]))
      refine wpAnyH_ready (rs := [66]) (by kernel_rfl) (by simp) ?_
      refine AllReadyH.cons (o := { dst := some 107, op := Op.convert 37 9 (Operand.tmp 106), type := 9, pos := "law.go:67", after := #[{ on := 65, ground := Ground.data }, { on := 60, ground := Ground.guard }], guard := some (60, true) }) rfl (fun K hK => ?_) AllReadyH.nil
      have cv := conv_any SQ.out rfl
      go_simp
      clear cv
      try go_wp2_with fail
      refine hK.out _ _ ?_ (fun hNew => ?_)
      · first | exact hHeld | exact ⟨cell_go hHeld.1 hb, cell_go hHeld.2.1 hb, cell_go hHeld.2.2.1 hb, cell_go hHeld.2.2.2.1 hb, cell_go hHeld.2.2.2.2.1 hb, cell_go hHeld.2.2.2.2.2.1 hb, cell_go hHeld.2.2.2.2.2.2.1 hb, cell_go hHeld.2.2.2.2.2.2.2.1 hb, Lib.hid ((Hid.out hHeld.2.2.2.2.2.2.2.2).trans (hb.mono (Hid.out hHeld.2.2.2.2.2.2.2.2).size))⟩
      clear hK K
      replace hHeld := hNew
      clear hNew
      ((try simp only [Act.put]); (try simp only [List.setIfInBounds_toArray]); (try simp only [List.set_cons_succ]); (try simp only [List.set_cons_zero]))
      refine wpAnyH_take (i := 67) (oi := { dst := some 108, op := Op.binOp BinOp.eql 9 (Operand.tmp 104) (Operand.tmp 107) 9, type := 4, pos := "law.go:67", after := #[{ on := 63, ground := Ground.data }, { on := 66, ground := Ground.data }, { on := 60, ground := Ground.guard }], guard := some (60, true) }) (v := ?_) rfl (by kernel_rfl) (by kernel_rfl) (by kernel_rfl) (fun _ _ _ h => h) (Or.inl ⟨by rfl, ?_⟩) (by assumption) ?_
      rotate_left
      · (intro w hSw; (try dsimp only at hSw); go_simp; try with_reducible rfl)
      ((try simp only [Act.put]); (try simp only [List.setIfInBounds_toArray]); (try simp only [List.set_cons_succ]); (try simp only [List.set_cons_zero]))
      refine wpAnyH_take (i := 68) (oi := { dst := some 109, op := Op.pick (Operand.tmp 101) (Operand.tmp 108) (Operand.const (Value.bool false)), type := 4, pos := "law.go:67", after := #[{ on := 60, ground := Ground.data }, { on := 67, ground := Ground.data }], guard := none }) (v := ?_) rfl (by kernel_rfl) (by kernel_rfl) (by kernel_rfl) (fun _ _ _ h => h) (Or.inl ⟨by rfl, ?_⟩) (by assumption) ?_
      rotate_left
      · (intro w hSw; (try dsimp only at hSw); go_simp; try with_reducible rfl)
      ((try simp only [Act.put]); (try simp only [List.setIfInBounds_toArray]); (try simp only [List.set_cons_succ]); (try simp only [List.set_cons_zero]))
      refine wpAnyH_take (i := 69) (oi := { dst := some 10, op := Op.assign (Operand.tmp 109), type := 4, pos := "law.go:67", after := #[{ on := 68, ground := Ground.data }, { on := 65, ground := Ground.chain }, { on := 0, ground := Ground.phase }, { on := 1, ground := Ground.phase }, { on := 2, ground := Ground.phase }, { on := 3, ground := Ground.phase }, { on := 4, ground := Ground.phase }, { on := 5, ground := Ground.phase }, { on := 6, ground := Ground.phase }, { on := 7, ground := Ground.phase }, { on := 8, ground := Ground.phase }, { on := 9, ground := Ground.phase }, { on := 10, ground := Ground.phase }, { on := 11, ground := Ground.phase }, { on := 12, ground := Ground.phase }, { on := 13, ground := Ground.phase }, { on := 14, ground := Ground.phase }, { on := 15, ground := Ground.phase }, { on := 16, ground := Ground.phase }, { on := 17, ground := Ground.phase }, { on := 18, ground := Ground.phase }, { on := 19, ground := Ground.phase }, { on := 20, ground := Ground.phase }, { on := 21, ground := Ground.phase }, { on := 22, ground := Ground.phase }, { on := 23, ground := Ground.phase }, { on := 24, ground := Ground.phase }, { on := 25, ground := Ground.phase }, { on := 26, ground := Ground.phase }, { on := 27, ground := Ground.phase }, { on := 28, ground := Ground.phase }, { on := 29, ground := Ground.phase }, { on := 30, ground := Ground.phase }, { on := 31, ground := Ground.phase }, { on := 32, ground := Ground.phase }, { on := 33, ground := Ground.phase }, { on := 34, ground := Ground.phase }, { on := 35, ground := Ground.phase }, { on := 36, ground := Ground.phase }, { on := 37, ground := Ground.phase }, { on := 38, ground := Ground.phase }, { on := 39, ground := Ground.phase }, { on := 40, ground := Ground.phase }, { on := 41, ground := Ground.phase }, { on := 42, ground := Ground.phase }, { on := 43, ground := Ground.phase }, { on := 44, ground := Ground.phase }, { on := 45, ground := Ground.phase }, { on := 46, ground := Ground.phase }, { on := 47, ground := Ground.phase }, { on := 48, ground := Ground.phase }, { on := 49, ground := Ground.phase }, { on := 50, ground := Ground.phase }, { on := 51, ground := Ground.phase }, { on := 52, ground := Ground.phase }, { on := 53, ground := Ground.phase }, { on := 54, ground := Ground.phase }, { on := 55, ground := Ground.phase }, { on := 56, ground := Ground.phase }, { on := 57, ground := Ground.phase }, { on := 58, ground := Ground.phase }, { on := 59, ground := Ground.phase }, { on := 60, ground := Ground.phase }, { on := 61, ground := Ground.phase }, { on := 62, ground := Ground.phase }, { on := 63, ground := Ground.phase }, { on := 64, ground := Ground.phase }, { on := 65, ground := Ground.phase }, { on := 66, ground := Ground.phase }, { on := 67, ground := Ground.phase }, { on := 68, ground := Ground.phase }], guard := none }) (v := ?_) rfl (by kernel_rfl) (by kernel_rfl) (by kernel_rfl) (fun _ _ _ h => h) (Or.inl ⟨by rfl, ?_⟩) (by assumption) ?_
      rotate_left
      · (intro w hSw; (try dsimp only at hSw); go_simp; try with_reducible rfl)
      ((try simp only [Act.put]); (try simp only [List.setIfInBounds_toArray]); (try simp only [List.set_cons_succ]); (try simp only [List.set_cons_zero]))
      refine wpAnyH_done (by kernel_rfl) ?_ _
      refine NoPanic.normal ?_
      have BF := Lib.hid (Hid.out hHeld.2.2.2.2.2.2.2.2)
      clear hHeld
      go_wp2_with fail
      go_ret
      exact ⟨rfl, S0.out.b.trans (BF.out.mono S0.out.b.size)⟩
    · skip
      have cv := conv_any SQ.out rfl
      go_simp
      clear cv
      try go_wp2_with fail
      refine hK.out _ _ ?_ (fun hNew => ?_)
      · first | exact hHeld | exact ⟨cell_go hHeld.1 hb, cell_go hHeld.2.1 hb, cell_go hHeld.2.2.1 hb, cell_go hHeld.2.2.2.1 hb, cell_go hHeld.2.2.2.2.1 hb, cell_go hHeld.2.2.2.2.2.1 hb, cell_go hHeld.2.2.2.2.2.2.1 hb, cell_go hHeld.2.2.2.2.2.2.2.1 hb, Lib.hid ((Hid.out hHeld.2.2.2.2.2.2.2.2).trans (hb.mono (Hid.out hHeld.2.2.2.2.2.2.2.2).size))⟩
      clear hK K
      replace hHeld := hNew
      clear hNew
      ((try simp only [Act.put]); (try simp only [List.setIfInBounds_toArray]); (try simp only [List.set_cons_succ]); (try simp only [List.set_cons_zero]))
      refine wpAnyH_ready (rs := [63]) (by kernel_rfl) (by simp) ?_
      refine AllReadyH.cons (o := { dst := some 104, op := Op.convert 37 9 (Operand.tmp 103), type := 9, pos := "law.go:67", after := #[{ on := 62, ground := Ground.data }, { on := 60, ground := Ground.guard }], guard := some (60, true) }) rfl (fun K hK => ?_) AllReadyH.nil
      have cv := conv_any SP.out rfl
      go_simp
      clear cv
      try go_wp2_with fail
      refine hK.out _ _ ?_ (fun hNew => ?_)
      · first | exact hHeld | exact ⟨cell_go hHeld.1 hb, cell_go hHeld.2.1 hb, cell_go hHeld.2.2.1 hb, cell_go hHeld.2.2.2.1 hb, cell_go hHeld.2.2.2.2.1 hb, cell_go hHeld.2.2.2.2.2.1 hb, cell_go hHeld.2.2.2.2.2.2.1 hb, cell_go hHeld.2.2.2.2.2.2.2.1 hb, Lib.hid ((Hid.out hHeld.2.2.2.2.2.2.2.2).trans (hb.mono (Hid.out hHeld.2.2.2.2.2.2.2.2).size))⟩
      clear hK K
      replace hHeld := hNew
      clear hNew
      ((try simp only [Act.put]); (try simp only [List.setIfInBounds_toArray]); (try simp only [List.set_cons_succ]); (try simp only [List.set_cons_zero]))
      refine wpAnyH_take (i := 67) (oi := { dst := some 108, op := Op.binOp BinOp.eql 9 (Operand.tmp 104) (Operand.tmp 107) 9, type := 4, pos := "law.go:67", after := #[{ on := 63, ground := Ground.data }, { on := 66, ground := Ground.data }, { on := 60, ground := Ground.guard }], guard := some (60, true) }) (v := ?_) rfl (by kernel_rfl) (by kernel_rfl) (by kernel_rfl) (fun _ _ _ h => h) (Or.inl ⟨by rfl, ?_⟩) (by assumption) ?_
      rotate_left
      · (intro w hSw; (try dsimp only at hSw); go_simp; try with_reducible rfl)
      ((try simp only [Act.put]); (try simp only [List.setIfInBounds_toArray]); (try simp only [List.set_cons_succ]); (try simp only [List.set_cons_zero]))
      refine wpAnyH_take (i := 68) (oi := { dst := some 109, op := Op.pick (Operand.tmp 101) (Operand.tmp 108) (Operand.const (Value.bool false)), type := 4, pos := "law.go:67", after := #[{ on := 60, ground := Ground.data }, { on := 67, ground := Ground.data }], guard := none }) (v := ?_) rfl (by kernel_rfl) (by kernel_rfl) (by kernel_rfl) (fun _ _ _ h => h) (Or.inl ⟨by rfl, ?_⟩) (by assumption) ?_
      rotate_left
      · (intro w hSw; (try dsimp only at hSw); go_simp; try with_reducible rfl)
      ((try simp only [Act.put]); (try simp only [List.setIfInBounds_toArray]); (try simp only [List.set_cons_succ]); (try simp only [List.set_cons_zero]))
      refine wpAnyH_take (i := 69) (oi := { dst := some 10, op := Op.assign (Operand.tmp 109), type := 4, pos := "law.go:67", after := #[{ on := 68, ground := Ground.data }, { on := 65, ground := Ground.chain }, { on := 0, ground := Ground.phase }, { on := 1, ground := Ground.phase }, { on := 2, ground := Ground.phase }, { on := 3, ground := Ground.phase }, { on := 4, ground := Ground.phase }, { on := 5, ground := Ground.phase }, { on := 6, ground := Ground.phase }, { on := 7, ground := Ground.phase }, { on := 8, ground := Ground.phase }, { on := 9, ground := Ground.phase }, { on := 10, ground := Ground.phase }, { on := 11, ground := Ground.phase }, { on := 12, ground := Ground.phase }, { on := 13, ground := Ground.phase }, { on := 14, ground := Ground.phase }, { on := 15, ground := Ground.phase }, { on := 16, ground := Ground.phase }, { on := 17, ground := Ground.phase }, { on := 18, ground := Ground.phase }, { on := 19, ground := Ground.phase }, { on := 20, ground := Ground.phase }, { on := 21, ground := Ground.phase }, { on := 22, ground := Ground.phase }, { on := 23, ground := Ground.phase }, { on := 24, ground := Ground.phase }, { on := 25, ground := Ground.phase }, { on := 26, ground := Ground.phase }, { on := 27, ground := Ground.phase }, { on := 28, ground := Ground.phase }, { on := 29, ground := Ground.phase }, { on := 30, ground := Ground.phase }, { on := 31, ground := Ground.phase }, { on := 32, ground := Ground.phase }, { on := 33, ground := Ground.phase }, { on := 34, ground := Ground.phase }, { on := 35, ground := Ground.phase }, { on := 36, ground := Ground.phase }, { on := 37, ground := Ground.phase }, { on := 38, ground := Ground.phase }, { on := 39, ground := Ground.phase }, { on := 40, ground := Ground.phase }, { on := 41, ground := Ground.phase }, { on := 42, ground := Ground.phase }, { on := 43, ground := Ground.phase }, { on := 44, ground := Ground.phase }, { on := 45, ground := Ground.phase }, { on := 46, ground := Ground.phase }, { on := 47, ground := Ground.phase }, { on := 48, ground := Ground.phase }, { on := 49, ground := Ground.phase }, { on := 50, ground := Ground.phase }, { on := 51, ground := Ground.phase }, { on := 52, ground := Ground.phase }, { on := 53, ground := Ground.phase }, { on := 54, ground := Ground.phase }, { on := 55, ground := Ground.phase }, { on := 56, ground := Ground.phase }, { on := 57, ground := Ground.phase }, { on := 58, ground := Ground.phase }, { on := 59, ground := Ground.phase }, { on := 60, ground := Ground.phase }, { on := 61, ground := Ground.phase }, { on := 62, ground := Ground.phase }, { on := 63, ground := Ground.phase }, { on := 64, ground := Ground.phase }, { on := 65, ground := Ground.phase }, { on := 66, ground := Ground.phase }, { on := 67, ground := Ground.phase }, { on := 68, ground := Ground.phase }], guard := none }) (v := ?_) rfl (by kernel_rfl) (by kernel_rfl) (by kernel_rfl) (fun _ _ _ h => h) (Or.inl ⟨by rfl, ?_⟩) (by assumption) ?_
      rotate_left
      · (intro w hSw; (try dsimp only at hSw); go_simp; try with_reducible rfl)
      ((try simp only [Act.put]); (try simp only [List.setIfInBounds_toArray]); (try simp only [List.set_cons_succ]); (try simp only [List.set_cons_zero]))
      refine wpAnyH_done (by kernel_rfl) ?_ _
      refine NoPanic.normal ?_
      have BF := Lib.hid (Hid.out hHeld.2.2.2.2.2.2.2.2)
      clear hHeld
      go_wp2_with fail
      go_ret
      exact ⟨rfl, S0.out.b.trans (BF.out.mono S0.out.b.size)⟩

end Go.Proofs.Ytbmpeadoicjpnaa

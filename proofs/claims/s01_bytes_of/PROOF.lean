import PyProof.Rows.All
import Wide.All
import OpenK.AllK
import Wide.FinOn
import Open.SpecLaws
import KE.OsGo
import HandS.ForSpec
import HandS.Comp
import HandS.Wide
import PySem.Challenge.RW_smallproducts_s01_bytes_of
set_option Elab.async false
set_option linter.all false
set_option maxRecDepth 100000
set_option maxHeartbeats 2000000
namespace Sp
/-! ### the mathematics: plain lists and numbers -/
def ws (b sp : Int) : Int := if sp ≤ 2 * b then b - sp else b
def hold (x : Int) : Int := max (-2147483648) (min 2147483647 x)
def gi (l : List Int) (j : Nat) : Int := l.getD j 0
def upto (F : Nat → Int) : Nat → Int
  | 0 => 0
  | k + 1 => upto F k + F k
def dot (xs ws : List Int) (n i : Nat) : Int := upto (fun j => gi xs j * gi ws (n * i + j)) n
theorem upto_congr {F G : Nat → Int} : ∀ {n : Nat}, (∀ k, k < n → F k = G k) → upto F n = upto G n
  | 0, _ => rfl
  | n + 1, h => by
    show upto F n + F n = upto G n + G n
    rw [upto_congr (fun k hk => h k (Nat.lt_succ_of_lt hk)), h n (Nat.lt_succ_self n)]
theorem total_take (l : List Int) (F : Nat → Int) (h : ∀ k, k < l.length → l[k]? = some (F k)) : ∀ n, n ≤ l.length → Sv05.total (l.take n) = upto F n
  | 0, _ => rfl
  | n + 1, hn => by
    have e : l.take (n + 1) = l.take n ++ [F n] := by
      rw [List.take_add_one, h n hn]
      rfl
    have ih := total_take l F h n (Nat.le_of_succ_le hn)
    unfold Sv05.total at ih ⊢
    rw [e, List.foldl_append, ih]
    rfl
theorem total_is {l : List Int} {F : Nat → Int} {n : Nat} (hl : l.length = n) (h : ∀ k, k < n → l[k]? = some (F k)) : Sv05.total l = upto F n := by
  subst hl
  have q := total_take l F h l.length (Nat.le_refl _)
  rw [List.take_length] at q
  exact q
theorem gi_get {l : List Int} {j : Nat} (h : j < l.length) : l[j]? = some (gi l j) := by
  unfold gi
  rw [List.getElem?_eq_getElem h, List.getD_eq_getElem?_getD, List.getElem?_eq_getElem h]
  rfl
theorem gi_mem {l : List Int} {j : Nat} (h : j < l.length) : gi l j ∈ l := by
  have e := gi_get h
  exact List.mem_of_getElem? e
theorem gi_map {f : Int → Int} {l : List Int} {j : Nat} (h : j < l.length) : gi (l.map f) j = f (gi l j) := by
  have e := gi_get (l := l.map f) (j := j) (by rw [List.length_map]; exact h)
  rw [List.getElem?_map, gi_get h] at e
  exact (Option.some.inj e).symm
theorem row_len {n i r : Nat} (hi : i < r) : n * i + n ≤ r * n := by
  have h : n * (i + 1) ≤ n * r := Nat.mul_le_mul_left n hi
  rw [Nat.mul_succ, Nat.mul_comm n r] at h
  exact h
/-- the specification's row, element by element -/
theorem zip_dot {xs ys : List Int} {n r i : Nat} (g : Nat × Nat → Int) (p q : Int → Int) (hx : xs.length = n) (hy : ys.length = r * n) (hi : i < r)
    (hg : ∀ a ∈ xs, ∀ b ∈ ys, g (a.toNat, b.toNat) = p a * q b) :
    Sv05.total (((Sv05Neutral.n xs).zip (Sv05.weights (Sv05Neutral.n ys) n i)).map g) = dot (xs.map p) (ys.map q) n i := by
  have hb := row_len (n := n) hi
  have lw : (Sv05.weights (Sv05Neutral.n ys) n i).length = n := by
    unfold Sv05.weights Sv05Neutral.n
    rw [List.length_take, List.length_drop, List.length_map, hy]
    omega
  have lx : (Sv05Neutral.n xs).length = n := by
    unfold Sv05Neutral.n
    rw [List.length_map, hx]
  refine total_is (by rw [List.length_map, List.length_zip, lw, lx, Nat.min_self]) fun k hk => ?_
  have k1 : k < xs.length := by omega
  have k2 : n * i + k < ys.length := by omega
  have e1 : (Sv05Neutral.n xs)[k]? = some (gi xs k).toNat := by
    unfold Sv05Neutral.n
    rw [List.getElem?_map, gi_get k1]
    rfl
  have e2 : (Sv05.weights (Sv05Neutral.n ys) n i)[k]? = some (gi ys (n * i + k)).toNat := by
    unfold Sv05.weights Sv05Neutral.n
    rw [List.getElem?_take_of_lt hk, List.getElem?_drop, List.getElem?_map, gi_get k2]
    rfl
  have e3 : ((Sv05Neutral.n xs).zip (Sv05.weights (Sv05Neutral.n ys) n i))[k]? = some ((gi xs k).toNat, (gi ys (n * i + k)).toNat) := List.getElem?_zip_eq_some.mpr ⟨e1, e2⟩
  rw [List.getElem?_map, e3, gi_map k1, gi_map k2]
  show some (g _) = _
  rw [hg _ (gi_mem k1) _ (gi_mem k2)]
theorem signed_is {w : Nat} {b : Int} (hw : 0 < w) (h0 : 0 ≤ b) (h1 : b < 2 ^ w) : Sv05.signed w b.toNat = ws b (2 ^ w) := by
  obtain ⟨v, rfl⟩ : ∃ v, w = v + 1 := ⟨w - 1, by omega⟩
  obtain ⟨m, rfl⟩ : ∃ m : Nat, b = (m : Int) := ⟨b.toNat, by omega⟩
  have h1' : m < 2 ^ (v + 1) := by
    have : (m : Int) < ((2 ^ (v + 1) : Nat) : Int) := by rw [Int.natCast_pow]; exact h1
    omega
  have e : ((2 : Int) ^ (v + 1)) = ((2 ^ (v + 1) : Nat) : Int) := by rw [Int.natCast_pow]; rfl
  unfold Sv05.signed ws
  rw [e, Int.toNat_natCast, Nat.mod_eq_of_lt h1', Nat.add_sub_cancel]
  have p : 2 ^ (v + 1) = 2 * 2 ^ v := by rw [Nat.pow_succ, Nat.mul_comm]
  rw [p] at h1' ⊢
  by_cases c : m < 2 ^ v
  · rw [if_pos c, if_neg (by omega)]
  · rw [if_neg c, if_pos (by omega)]
theorem signed8 {b : Int} (h : 0 ≤ b ∧ b < 256) : Sv05.signed 8 b.toNat = ws b 256 := signed_is (w := 8) (by decide) h.1 h.2
theorem signed16 {b : Int} (h : 0 ≤ b ∧ b < 65536) : Sv05.signed 16 b.toNat = ws b 65536 := signed_is (w := 16) (by decide) h.1 h.2
theorem signed32 {b : Int} (h : 0 ≤ b ∧ b < 4294967296) : Sv05.signed 32 b.toNat = ws b 4294967296 := signed_is (w := 32) (by decide) h.1 h.2
theorem unsigned_is (w : Nat) (x : Int) : ((Sv05.unsigned w x : Nat) : Int) = x % (2 ^ w : Nat) := by
  unfold Sv05.unsigned
  have h : (0 : Int) < ((2 ^ w : Nat) : Int) := by
    have := Nat.two_pow_pos w
    omega
  exact Int.toNat_of_nonneg (Int.emod_nonneg _ (by omega))
theorem below_iff {top : Int} {l : List Int} (h : Sv05Neutral.below top l = true) : ∀ a ∈ l, 0 ≤ a ∧ a < top := by
  intro a ha
  unfold Sv05Neutral.below at h
  have q := List.all_eq_true.mp h a ha
  rw [Bool.and_eq_true, decide_eq_true_eq, decide_eq_true_eq] at q
  exact q
theorem many_iff {top k : Int} {yes : Bool} {l : List Int} (h : Sv05Neutral.many top yes k l = true) : (∀ a ∈ l, 0 ≤ a ∧ a < top) ∧ (l.length : Int) = if yes = true then k else 0 := by
  unfold Sv05Neutral.many at h
  rw [Bool.and_eq_true, decide_eq_true_eq] at h
  exact ⟨below_iff h.1, h.2⟩
theorem size_iff {r n : Int} (h0 : 0 ≤ r) (h1 : 0 ≤ n) : Sv05.isSize r.toNat n.toNat = true ↔ ¬ (1024 < r ∨ 65536 < n) := by
  unfold Sv05.isSize
  rw [Bool.and_eq_true, decide_eq_true_eq, decide_eq_true_eq]
  omega
theorem sizes_iff {r n : Int} (h : Sv05Neutral.sizes r n = true) : 0 ≤ r ∧ 0 ≤ n ∧ ((r ≤ 8 ∧ n ≤ 500) ∨ (r ≤ 1024 ∧ n = 0) ∨ 1024 < r ∨ 65536 < n) := by
  unfold Sv05Neutral.sizes at h
  rw [Bool.and_eq_true, Bool.or_eq_true, Bool.or_eq_true, decide_eq_true_eq, decide_eq_true_eq] at h
  obtain ⟨hb, hc⟩ := h
  have b := below_iff hb
  have h0 := (b r (by simp)).1
  have h1 := (b n (by simp)).1
  refine ⟨h0, h1, ?_⟩
  rcases hc with h | h | h
  · exact .inl h
  · exact .inr (.inl h)
  · have : ¬ Sv05.isSize r.toNat n.toNat = true := by
      intro q
      rw [q] at h
      cases h
    rw [size_iff h0 h1] at this
    omega
/-! the two answers -/
def bRow (n : Nat) (x w bias : List Int) (i : Nat) : Int := hold (ws (gi bias i) 4294967296 + dot x (w.map fun b => ws b 256) n i) % 4294967296
def wRow (n : Nat) (x w : List Int) (i : Nat) : Int := dot (x.map fun b => ws b 65536) (w.map fun b => ws b 65536) n i % 18446744073709551616
theorem at_is {l : List Int} {i : Nat} (h : i < l.length) : Sv05.at_ (Sv05Neutral.n l) i = (gi l i).toNat := by
  unfold Sv05.at_ Sv05Neutral.n
  rw [List.getD_eq_getElem?_getD, List.getElem?_map, gi_get h]
  rfl
theorem held_is (x : Int) : Sv05.held x = hold x := rfl
theorem bytes_no {rows n : Int} {x w bias : List Int} (h0 : 0 ≤ rows) (h1 : 0 ≤ n) (h : 1024 < rows ∨ 65536 < n) : PySv05.bytes_of rows n x w bias = [-1] := by
  show (let y := Sv05.does (.bytes (Sv05Neutral.n x) (Sv05Neutral.n w) (Sv05Neutral.n bias) rows.toNat n.toNat); (match y.code with | some z => [z] | none => []) ++ y.l.map Sv05Neutral.said) = [-1]
  unfold Sv05.does
  have e : ¬ Sv05.isSize rows.toNat n.toNat = true := fun q => (size_iff h0 h1).mp q h
  simp only [if_neg e]
  rfl
theorem bytes_yes {rows n : Int} {x w bias : List Int} (h0 : 0 ≤ rows) (h1 : 0 ≤ n) (h : ¬ (1024 < rows ∨ 65536 < n)) (hx : x.length = n.toNat) (hw : w.length = rows.toNat * n.toNat) (hb : bias.length = rows.toNat)
    (bx : ∀ a ∈ x, 0 ≤ a ∧ a < 256) (bw : ∀ a ∈ w, 0 ≤ a ∧ a < 256) (bb : ∀ a ∈ bias, 0 ≤ a ∧ a < 4294967296) :
    PySv05.bytes_of rows n x w bias = 0 :: (List.range rows.toNat).map (bRow n.toNat x w bias) := by
  show (let y := Sv05.does (.bytes (Sv05Neutral.n x) (Sv05Neutral.n w) (Sv05Neutral.n bias) rows.toNat n.toNat); (match y.code with | some z => [z] | none => []) ++ y.l.map Sv05Neutral.said) = _
  unfold Sv05.does
  have e : Sv05.isSize rows.toNat n.toNat = true := (size_iff h0 h1).mpr h
  simp only [if_pos e]
  unfold Sv05.code
  simp only [List.map_map]
  refine congrArg (List.cons 0) (List.map_congr_left fun i hi => ?_)
  have hi := List.mem_range.mp hi
  show ((Sv05.unsigned 32 _ : Nat) : Int) = _
  rw [unsigned_is, held_is, at_is (by omega), signed32 (bb _ (gi_mem (by omega))), zip_dot (p := fun a => a) (q := fun b => ws b 256) _ hx hw hi (fun a ha b hb => by
    show ((a.toNat : Nat) : Int) * Sv05.signed 8 b.toNat = _
    rw [signed8 (bw b hb), Int.toNat_of_nonneg (bx a ha).1]), List.map_id']
  rfl
theorem words_no {rows n : Int} {x w : List Int} (h0 : 0 ≤ rows) (h1 : 0 ≤ n) (h : 1024 < rows ∨ 65536 < n) : PySv05.words rows n x w = [-1] := by
  show (let y := Sv05.does (.words (Sv05Neutral.n x) (Sv05Neutral.n w) rows.toNat n.toNat); (match y.code with | some z => [z] | none => []) ++ y.l.map Sv05Neutral.said) = [-1]
  unfold Sv05.does
  have e : ¬ Sv05.isSize rows.toNat n.toNat = true := fun q => (size_iff h0 h1).mp q h
  simp only [if_neg e]
  rfl
theorem words_yes {rows n : Int} {x w : List Int} (h0 : 0 ≤ rows) (h1 : 0 ≤ n) (h : ¬ (1024 < rows ∨ 65536 < n)) (hx : x.length = n.toNat) (hw : w.length = rows.toNat * n.toNat)
    (bx : ∀ a ∈ x, 0 ≤ a ∧ a < 65536) (bw : ∀ a ∈ w, 0 ≤ a ∧ a < 65536) :
    PySv05.words rows n x w = 0 :: (List.range rows.toNat).map (wRow n.toNat x w) := by
  show (let y := Sv05.does (.words (Sv05Neutral.n x) (Sv05Neutral.n w) rows.toNat n.toNat); (match y.code with | some z => [z] | none => []) ++ y.l.map Sv05Neutral.said) = _
  unfold Sv05.does
  have e : Sv05.isSize rows.toNat n.toNat = true := (size_iff h0 h1).mpr h
  simp only [if_pos e]
  unfold Sv05.code
  simp only [List.map_map]
  refine congrArg (List.cons 0) (List.map_congr_left fun i hi => ?_)
  have hi := List.mem_range.mp hi
  show ((Sv05.unsigned 64 _ : Nat) : Int) = _
  rw [unsigned_is, zip_dot (p := fun b => ws b 65536) (q := fun b => ws b 65536) _ hx hw hi (fun a ha b hb => by
    show Sv05.signed 16 a.toNat * Sv05.signed 16 b.toNat = _
    rw [signed16 (bw b hb), signed16 (bx a ha)])]
  rfl
end Sp

namespace Sp
open PySem PySem.Spec PyProof.Rows L2
open PySem.W (Codec)
/-! ### the text by places -/
def top (i : Nat) : Stmt := PySem.Challenge.pw_smallproducts_s01_bytes_of.main.body.getD i (.Pass ⟨0, 0, 0, 0⟩)
abbrev s_is_refused : Stmt := top 5
abbrev s_with_sign : Stmt := top 6
abbrev s_all_with_sign : Stmt := top 7
abbrev s_hold_in_32_bits : Stmt := top 8
abbrev s_row_total : Stmt := top 9
abbrev s_bytes_of : Stmt := top 10
/-- where each def stands -/
structure Ad where
  f_is_refused : Addr
  d_is_refused : FuncData
  f_with_sign : Addr
  d_with_sign : FuncData
  f_all_with_sign : Addr
  d_all_with_sign : FuncData
  f_hold_in_32_bits : Addr
  d_hold_in_32_bits : FuncData
  f_row_total : Addr
  d_row_total : FuncData
  f_bytes_of : Addr
  d_bytes_of : FuncData
/-- what the top has written -/
structure Txt (K : PySem.W.Frag) (mg : Str → Option Value) (A : Ad) : Prop where
  F_is_refused : Fun K "is_refused" "is_refused" s_is_refused A.f_is_refused A.d_is_refused
  b_is_refused : Binds K A.d_is_refused ["rows", "n"] []
  g_is_refused : mg "is_refused" = some (.ref A.f_is_refused)
  F_with_sign : Fun K "with_sign" "with_sign" s_with_sign A.f_with_sign A.d_with_sign
  b_with_sign : Binds K A.d_with_sign ["bits", "span"] []
  g_with_sign : mg "with_sign" = some (.ref A.f_with_sign)
  F_all_with_sign : Fun K "all_with_sign" "all_with_sign" s_all_with_sign A.f_all_with_sign A.d_all_with_sign
  b_all_with_sign : Binds K A.d_all_with_sign ["numbers", "span"] []
  g_all_with_sign : mg "all_with_sign" = some (.ref A.f_all_with_sign)
  F_hold_in_32_bits : Fun K "hold_in_32_bits" "hold_in_32_bits" s_hold_in_32_bits A.f_hold_in_32_bits A.d_hold_in_32_bits
  b_hold_in_32_bits : Binds K A.d_hold_in_32_bits ["number"] []
  g_hold_in_32_bits : mg "hold_in_32_bits" = some (.ref A.f_hold_in_32_bits)
  F_row_total : Fun K "row_total" "row_total" s_row_total A.f_row_total A.d_row_total
  b_row_total : Binds K A.d_row_total ["i", "n", "x", "w"] []
  g_row_total : mg "row_total" = some (.ref A.f_row_total)
  F_bytes_of : Fun K "bytes_of" "bytes_of" s_bytes_of A.f_bytes_of A.d_bytes_of
  b_bytes_of : Binds K A.d_bytes_of ["rows", "n", "x", "w", "bias"] []
  g_bytes_of : mg "bytes_of" = some (.ref A.f_bytes_of)
  c_MOST_ROWS : ∃ t, mg "MOST_ROWS" = some (.int 1024 t)
  c_MOST_NUMBERS : ∃ t, mg "MOST_NUMBERS" = some (.int 65536 t)
  c_SPAN_8 : ∃ t, mg "SPAN_8" = some (.int 256 t)
  c_SPAN_32 : ∃ t, mg "SPAN_32" = some (.int 4294967296 t)
  z_max : mg "max" = none
  z_min : mg "min" = none
  z_range : mg "range" = none
section
variable {P : Program} {w : World} {K : PySem.W.Frag} {mg : Str → Option Value} {base : Heap} {A : Ad}
/-! ### helpers -/
theorem pe_cint {X : Cx} {x : Str} {i : Int} {t : _} {pos : Pos} (hg : Gl X x) (hm : X.mg x = some (.int i t)) (hd : (x == ("__debug__" : Str)) = false := by decide) : PE X (.Name x pos) (tC (.int i)) := pe_glob hg hm ⟨_, rfl⟩ hd
theorem same_upd {H : Hp} {p : Addr} {o : HO} (h : H p = none) : Same H (upd H p o) := fun b x e => by
  rw [upd_ne (ne_of_none e h)]
  exact e
/-- a store to an address that was free at the start -/
theorem same_store {H H1 : Hp} {p : Addr} {o : HO} (h : H p = none) (s : Same H H1) : Same H (upd H1 p o) := fun b x e => by
  rw [upd_ne (ne_of_none e h)]
  exact s b x e
theorem at_map {l : List Int} {j : Nat} (h : j < l.length) : (l.map V.int)[j]? = some (.int (gi l j)) := by
  rw [List.getElem?_map, gi_get h]
  rfl
theorem map_at {l : List Int} {j : Nat} {y : V} (h : (l.map V.int)[j]? = some y) : ∃ z, l[j]? = some z ∧ y = .int z := by
  rw [List.getElem?_map] at h
  cases e : l[j]? with
  | none =>
    rw [e] at h
    cases h
  | some z =>
    rw [e] at h
    exact ⟨z, rfl, (Option.some.inj h).symm⟩
/-! ### is_refused -/
def spRef : Sp := fun vs H Q _ => ∃ r n : Int, vs = [.int r, .int n] ∧ Q (.bl (decide (1024 < r ∨ 65536 < n))) H
theorem sc_is_refused : FnScope ["rows", "n"] ["rows", "n"] (defScope s_is_refused) := ⟨rfl, rfl, rfl, by decide +kernel, rfl, by decide +kernel, by decide +kernel⟩
theorem ok_is_refused (T : Txt K mg A) : FnOk P w K mg base CX0 1 A.f_is_refused A.d_is_refused ["rows", "n"] spRef := by
  obtain ⟨t1, c1⟩ := T.c_MOST_ROWS
  obtain ⟨t2, c2⟩ := T.c_MOST_NUMBERS
  refine T.F_is_refused.ok sc_is_refused (fun vs H Q E h => ?_) (fun cdv A' outer s H vs Q E hr h => ?_)
  · obtain ⟨r, n, rfl, _⟩ := h
    rfl
  · obtain ⟨r, n, rfl, q⟩ := h
    refine ⟨_, pss_one (ps_ret (pe_or (pe_cmpR op_gt (pv 0) (pe_cint rfl c1) (nomark _)) (pe_one (pe_cmpR op_gt (pv 1) (pe_cint rfl c2) (nomark _))))), ?_⟩
    refine ⟨_, rfl, _, _, rfl, rfl, _, rfl, ite2 (fun e => ?_) (fun e => ?_)⟩
    · rw [decide_eq_true (Or.inl (of_decide_eq_true e))] at q
      exact q
    · refine ⟨_, rfl, _, _, rfl, rfl, ?_⟩
      have e1 : ¬ (1024 : Int) < r := fun z => e (decide_eq_true z)
      have e2 : decide (1024 < r ∨ 65536 < n) = decide ((65536 : Int) < n) := by
        rw [decide_eq_decide]
        exact ⟨fun z => z.resolve_left e1, Or.inr⟩
      rw [e2] at q
      exact q
/-! ### with_sign -/
def spWs : Sp := fun vs H Q _ => ∃ b n : Int, vs = [.int b, .int n] ∧ Q (.int (ws b n)) H
theorem sc_with_sign : FnScope ["bits", "span"] ["bits", "span"] (defScope s_with_sign) := ⟨rfl, rfl, rfl, by decide +kernel, rfl, by decide +kernel, by decide +kernel⟩
theorem ok_with_sign (T : Txt K mg A) : FnOk P w K mg base CX0 1 A.f_with_sign A.d_with_sign ["bits", "span"] spWs := by
  refine T.F_with_sign.ok sc_with_sign (fun vs H Q E h => ?_) (fun cdv A' outer s H vs Q E hr h => ?_)
  · obtain ⟨r, n, rfl, _⟩ := h
    rfl
  · obtain ⟨b, n, rfl, q⟩ := h
    refine ⟨_, pss_cons (ps_if (pt_cmpR op_ge (pe_op op_mul pe_int (pv 0)) (pv 1) (nomark _)) (pss_one (ps_ret (pe_op op_sub (pv 0) (pv 1)))) pss_nil) (pss_one (ps_ret (pv 0))), ?_⟩
    refine ⟨_, rfl, _, _, rfl, rfl, .inl ⟨by decide, by decide⟩, _, rfl, _, _, rfl, rfl, _, rfl, ite2 (fun e => ?_) (fun e => ?_)⟩
    · refine ⟨_, rfl, _, rfl, _, _, rfl, rfl, ?_⟩
      unfold ws at q
      rw [if_pos (of_decide_eq_true e)] at q
      exact q
    · refine ⟨_, rfl, ?_⟩
      unfold ws at q
      rw [if_neg (fun z => e (decide_eq_true z))] at q
      exact q
/-! ### all_with_sign -/
def spAll (K : PySem.W.Frag) : Sp := fun vs H Q _ => ∃ (a : Addr) (ns : List Int) (n : Int), vs = [.ref a, .int n] ∧ SqL K H a (ns.map V.int) ∧ ns.length ≤ 4000 ∧
  ∀ H' p, Same H H' → H p = none → H' p = some (.lst ((ns.map fun b => ws b n).map V.int)) → Q (.ref p) H'
theorem sc_all_with_sign : FnScope ["numbers", "span", "bits"] ["numbers", "span"] (defScope s_all_with_sign) := ⟨rfl, rfl, rfl, by decide +kernel, rfl, by decide +kernel, by decide +kernel⟩
theorem ok_all_with_sign (T : Txt K mg A) : FnOk P w K mg base CX0 2 A.f_all_with_sign A.d_all_with_sign ["numbers", "span"] (spAll K) := by
  have G1 : FnOk P w K mg base CX0 1 A.f_with_sign A.d_with_sign ["bits", "span"] spWs := ok_with_sign T
  refine T.F_all_with_sign.ok sc_all_with_sign (fun vs H Q E h => ?_) (fun cdv A' outer s H vs Q E hr h => ?_)
  · obtain ⟨a, ns, n, rfl, _⟩ := h
    rfl
  · obtain ⟨a, ns, n, rfl, hS, hl, q⟩ := h
    refine ⟨_, pss_one (ps_ret (pe_lc (own := [("bits", 2)]) (g := gName 2) (tt := tYes) rfl sc_all_with_sign.nd (pi_list (pv 0))
      (blkOk_by (N := ["numbers", "span", "bits"]) (sc := defScope s_all_with_sign) (by decide +kernel))
      (fun _ _ _ _ _ => pg_name (i := 2) sc_all_with_sign.nd rfl (Or.inl rfl)) (fun _ _ _ _ _ => pts_nil)
      (fun _ _ _ _ _ => pe_call G1 hr (by rfl) T.g_with_sign T.F_with_sign.kp T.b_with_sign .nil pass0 (pa_cons (pv 2) (pa_cons (pv 1) pa_nil))))), ?_⟩
    refine ⟨.ref a, rfl, a, rfl, ⟨_, hS⟩, fun D hD => ?_⟩
    refine lc_list (K := K) (a := a) (xs := ns.map V.int) (fun i H' => Same H H' ∧ H' D = some (.lst (((ns.take i).map fun b => ws b n).map V.int)))
      ⟨same_upd hD, upd_same⟩ (fun i H' _ z => z.1.seq hS) ?_ ?_
    · rintro i y H' hi ⟨s5, e5⟩
      obtain ⟨z, hz, rfl⟩ := map_at hi
      refine ⟨rfl, ?_⟩
      dsimp only [tYes]
      refine iteT ?_
      refine ⟨_, rfl, _, rfl, _, _, rfl, ?_⟩
      refine ⟨_, e5, ?_, same_store hD s5, ?_⟩
      · rw [List.length_map, List.length_map, List.length_take]
        exact Nat.lt_of_le_of_lt (Nat.le_trans (Nat.min_le_right _ _) hl) (by decide)
      · rw [upd_same, List.take_add_one, hz, List.map_append, List.map_append]
        rfl
    · rintro H' ⟨s5, e5⟩
      rw [List.length_map, List.take_length] at e5
      exact q H' D s5 hD e5
/-! ### hold_in_32_bits -/
def spHold : Sp := fun vs H Q _ => ∃ x : Int, vs = [.int x] ∧ Q (.int (hold x)) H
theorem hold_is (x : Int) : (if (if x < 2147483647 then x else 2147483647) > (-2147483648 : Int) then (if x < 2147483647 then x else 2147483647) else -2147483648) = hold x := by
  unfold hold
  by_cases h1 : x < 2147483647
  · rw [if_pos h1]
    by_cases h2 : x > -2147483648
    · rw [if_pos h2]
      omega
    · rw [if_neg h2]
      omega
  · rw [if_neg h1, if_pos (by decide)]
    omega
theorem sc_hold : FnScope ["number", "half"] ["number"] (defScope s_hold_in_32_bits) := ⟨rfl, rfl, rfl, by decide +kernel, rfl, by decide +kernel, by decide +kernel⟩
theorem ok_hold (T : Txt K mg A) : FnOk P w K mg base CX0 1 A.f_hold_in_32_bits A.d_hold_in_32_bits ["number"] spHold := by
  obtain ⟨t1, c1⟩ := T.c_SPAN_32
  refine T.F_hold_in_32_bits.ok sc_hold (fun vs H Q E h => ?_) (fun cdv A' outer s H vs Q E hr h => ?_)
  · obtain ⟨x, rfl, _⟩ := h
    rfl
  · obtain ⟨x, rfl, q⟩ := h
    refine ⟨_, pss_cons (ps_set (i := 1) sc_hold.nd rfl (.inl rfl) (pe_op op_fdiv (pe_cint rfl c1) pe_int))
      (pss_one (ps_ret (pe_callB (call_max2 rfl) (by rfl) T.z_max boot_max (pa_cons (pe_un un_neg (pv 1)) (pa_cons (pe_callB (call_min2 rfl) (by rfl) T.z_min boot_min (pa_cons (pe_op op_sub (pv 1) pe_int) (pa_cons (pv 0) pa_nil))) pa_nil))))), ?_⟩
    refine ⟨_, _, rfl, rfl, ⟨by decide, by decide⟩, ?_⟩
    refine ⟨_, rfl, _, rfl, _, rfl, _, _, rfl, rfl, _, rfl, _, _, rfl, _, _, rfl, ?_⟩
    rw [← hold_is] at q
    exact q
/-! ### row_total -/
def spRow (K : PySem.W.Frag) : Sp := fun vs H Q _ => ∃ (i n : Nat) (ax aw : Addr) (xs ys : List Int), vs = [.int i, .int n, .ref ax, .ref aw] ∧ SqL K H ax (xs.map V.int) ∧ SqL K H aw (ys.map V.int) ∧
  n ≤ 65536 ∧ xs.length = n ∧ n * i + n ≤ ys.length ∧ (∀ a ∈ xs, -65536 ≤ a ∧ a ≤ 65536) ∧ Q (.int (dot xs ys n i)) H
theorem sc_row_total : FnScope ["i", "n", "x", "w", "total", "j"] ["i", "n", "x", "w"] (defScope s_row_total) := ⟨rfl, rfl, rfl, by decide +kernel, rfl, by decide +kernel, by decide +kernel⟩
theorem ok_row_total (T : Txt K mg A) : FnOk P w K mg base CX0 1 A.f_row_total A.d_row_total ["i", "n", "x", "w"] (spRow K) := by
  refine T.F_row_total.ok sc_row_total (fun vs H Q E h => ?_) (fun cdv A' outer s H vs Q E hr h => ?_)
  · obtain ⟨i, n, ax, aw, xs, ys, rfl, _⟩ := h
    rfl
  · obtain ⟨i, n, ax, aw, xs, ys, rfl, hX, hY, hn, lx, ly, bx, q⟩ := h
    refine ⟨_, pss_cons (ps_set (i := 4) sc_row_total.nd rfl (.inl rfl) pe_int)
      (pss_cons (ps_for PassesOwn.never rfl (pi_range1 (by rfl) T.z_range (pa_cons (pv 1) pa_nil)) (pg_name (i := 5) sc_row_total.nd rfl (.inl rfl))
        (pss_one (ps_set (i := 4) sc_row_total.nd rfl (.inl rfl) (pe_op op_add (pv 4) (pe_op op_mul (pe_ix ix_list (pv 2) (pv 5) (fun _ _ => rfl)) (pe_ix ix_list (pv 3) (pe_op op_add (pe_op op_mul (pv 1) (pv 0)) (pv 5)) (fun _ _ => rfl)))))))
      (pss_one (ps_ret (pv 4)))), ?_⟩
    refine ⟨_, rfl, (n : Int), rfl, by omega, by omega, ?_⟩
    refine for_range (lo := 0) (n := (n : Int).toNat) (fun k σ H' => ∃ v, σ = [some (.int i), some (.int n), some (.ref ax), some (.ref aw), some (.int (upto (fun j => gi xs j * gi ys (n * i + j)) k)), v] ∧ H' = H)
      ⟨none, rfl, rfl⟩ ?_ ?_
    · rintro k σ H' hk ⟨v, rfl, rfl⟩
      have hk : k < n := by rw [Int.toNat_natCast] at hk; exact hk
      have k1 : k < xs.length := by omega
      have k2 : n * i + k < ys.length := by omega
      have b1 := bx _ (gi_mem k1)
      refine ⟨_, rfl, _, rfl, _, rfl, ax, _, _, _, rfl, rfl, hX, (by rw [Int.zero_add]; exact atI_nat (at_map k1)), ?_⟩
      refine ⟨_, rfl, _, rfl, _, rfl, _, _, rfl, rfl, .inl ⟨by omega, by omega⟩, _, rfl, _, _, rfl, rfl, aw, _, _, .int (gi ys (n * i + k)), rfl, rfl, hY, ?_, ?_⟩
      · rw [Int.zero_add, show (n : Int) * (i : Int) + (k : Int) = ((n * i + k : Nat) : Int) by rw [Int.natCast_add, Int.natCast_mul]]
        exact atI_nat (at_map k2)
      · refine ⟨_, _, rfl, rfl, .inl ⟨by omega, by omega⟩, _, _, rfl, rfl, _, rfl, rfl⟩
    · rintro σ H' ⟨v, rfl, rfl⟩
      rw [Int.toNat_natCast]
      exact ⟨_, rfl, q⟩

/-! ### bytes_of -/
def spBytes (K : PySem.W.Frag) : Sp := fun vs H Q _ => ∃ (rows n : Int) (ax aw ab : Addr) (x w bias : List Int), vs = [.int rows, .int n, .ref ax, .ref aw, .ref ab] ∧
  SqL K H ax (x.map V.int) ∧ SqL K H aw (w.map V.int) ∧ SqL K H ab (bias.map V.int) ∧ PySv05.bytes_of_asked rows n x w bias = true ∧
  ∀ (H' : Hp) (p : Addr), H' p = some (.lst ((PySv05.bytes_of rows n x w bias).map V.int)) → Q (.ref p) H'
theorem sc_bytes_of : FnScope ["rows", "n", "x", "w", "bias", "weights", "answer", "i", "total"] ["rows", "n", "x", "w", "bias"] (defScope s_bytes_of) := ⟨rfl, rfl, rfl, by decide +kernel, rfl, by decide +kernel, by decide +kernel⟩
theorem ok_bytes_of (T : Txt K mg A) : FnOk P w K mg base CX0 3 A.f_bytes_of A.d_bytes_of ["rows", "n", "x", "w", "bias"] (spBytes K) := by
  have G1 : FnOk P w K mg base CX0 1 A.f_is_refused A.d_is_refused ["rows", "n"] spRef := ok_is_refused T
  have G2 : FnOk P w K mg base CX0 2 A.f_all_with_sign A.d_all_with_sign ["numbers", "span"] (spAll K) := ok_all_with_sign T
  have G3 : FnOk P w K mg base CX0 1 A.f_hold_in_32_bits A.d_hold_in_32_bits ["number"] spHold := ok_hold T
  have G4 : FnOk P w K mg base CX0 1 A.f_with_sign A.d_with_sign ["bits", "span"] spWs := ok_with_sign T
  have G5 : FnOk P w K mg base CX0 1 A.f_row_total A.d_row_total ["i", "n", "x", "w"] (spRow K) := ok_row_total T
  obtain ⟨t1, c1⟩ := T.c_SPAN_8
  obtain ⟨t2, c2⟩ := T.c_SPAN_32
  refine T.F_bytes_of.ok sc_bytes_of (fun vs H Q E h => ?_) (fun cdv A' outer s H vs Q E hr h => ?_)
  · obtain ⟨rows, n, ax, aw, ab, x, w, bias, rfl, _⟩ := h
    rfl
  · obtain ⟨rows, n, ax, aw, ab, x, w, bias, rfl, hX, hW, hB, hask, q⟩ := h
    have hr1 : Room 1 _ := hr.mono (by decide)
    refine ⟨_, pss_cons (ps_if (pt_val (pe_call G1 hr1 (by rfl) T.g_is_refused T.F_is_refused.kp T.b_is_refused .nil pass0 (pa_cons (pv 0) (pa_cons (pv 1) pa_nil)))) (pss_one (ps_ret (pe_lst (pa_cons (pe_un un_neg pe_int) pa_nil)))) pss_nil)
      (pss_cons (ps_set (i := 5) sc_bytes_of.nd rfl (.inl rfl) (pe_call G2 hr (by rfl) T.g_all_with_sign T.F_all_with_sign.kp T.b_all_with_sign .nil pass0 (pa_cons (pv 3) (pa_cons (pe_cint rfl c1) pa_nil))))
      (pss_cons (ps_set (i := 6) sc_bytes_of.nd rfl (.inl rfl) (pe_lst (pa_cons pe_int pa_nil)))
      (pss_cons (ps_for PassesOwn.never rfl (pi_range1 (by rfl) T.z_range (pa_cons (pv 0) pa_nil)) (pg_name (i := 7) sc_bytes_of.nd rfl (.inl rfl))
        (pss_cons (ps_set (i := 8) sc_bytes_of.nd rfl (.inl rfl) (pe_call G3 hr1 (by rfl) T.g_hold_in_32_bits T.F_hold_in_32_bits.kp T.b_hold_in_32_bits .nil pass0 (pa_cons (pe_op op_add
            (pe_call G4 hr1 (by rfl) T.g_with_sign T.F_with_sign.kp T.b_with_sign .nil pass0 (pa_cons (pe_ix ix_list (pv 4) (pv 7) (fun _ _ => rfl)) (pa_cons (pe_cint rfl c2) pa_nil)))
            (pe_call G5 hr1 (by rfl) T.g_row_total T.F_row_total.kp T.b_row_total .nil pass0 (pa_cons (pv 7) (pa_cons (pv 1) (pa_cons (pv 2) (pa_cons (pv 5) pa_nil)))))) pa_nil)))
        (pss_one (ps_expr (pe_bm PySem.F.plainAttrs_list PySem.F.slot_list_append PySem.F.type_list_append mt_append (pv 6) (pa_cons (pe_op op_mod (pv 8) (pe_cint rfl c2)) pa_nil))))))
      (pss_one (ps_ret (pv 6)))))), ?_⟩
    have ask : (Sv05Neutral.sizes rows n && (Sv05Neutral.many 256 (Sv05.isSize rows.toNat n.toNat) n x && (Sv05Neutral.many 256 (Sv05.isSize rows.toNat n.toNat) (rows * n) w && Sv05Neutral.many (2 ^ 32) (Sv05.isSize rows.toNat n.toNat) rows bias))) = true := hask
    rw [Bool.and_eq_true, Bool.and_eq_true, Bool.and_eq_true] at ask
    obtain ⟨as, ax1, aw1, ab1⟩ := ask
    obtain ⟨h0, h1, hsz⟩ := sizes_iff as
    obtain ⟨bx, lx⟩ := many_iff ax1
    obtain ⟨bw, lw⟩ := many_iff aw1
    obtain ⟨bb, lb⟩ := many_iff ab1
    refine ⟨_, rfl, _, rfl, _, _, rfl, _, rfl, ite2 (fun e => ?_) (fun e => ?_)⟩
    · have e := of_decide_eq_true e
      refine ⟨1, rfl, (by show 1 ≤ sizeLine; decide), fun p hp => q _ p ?_⟩
      rw [bytes_no h0 h1 e]
      exact upd_same
    · have e : ¬ (1024 < rows ∨ 65536 < n) := fun z => e (decide_eq_true z)
      have ey := (size_iff h0 h1).mpr e
      rw [ey, if_pos rfl] at lx lw lb
      obtain ⟨r, rfl⟩ : ∃ r : Nat, rows = (r : Int) := ⟨rows.toNat, by omega⟩
      obtain ⟨m, rfl⟩ : ∃ m : Nat, n = (m : Int) := ⟨n.toNat, by omega⟩
      have lx : x.length = m := by omega
      have lw : w.length = r * m := by
        have z : ((r * m : Nat) : Int) = (r : Int) * (m : Int) := Int.natCast_mul r m
        omega
      have lb : bias.length = r := by omega
      have hr0 : r ≤ 1024 := by omega
      have hm0 : m ≤ 65536 := by omega
      have lw4 : w.length ≤ 4000 := by
        rw [lw]
        rcases hsz with z | z | z
        · exact Nat.le_trans (Nat.mul_le_mul (show r ≤ 8 by omega) (show m ≤ 500 by omega)) (by decide)
        · have : m = 0 := by omega
          rw [this]
          exact Nat.zero_le _
        · omega
      have ans := bytes_yes h0 h1 e (x := x) (w := w) (bias := bias) (by rw [lx]; exact (Int.toNat_natCast m).symm) (by rw [lw, Int.toNat_natCast, Int.toNat_natCast]) (by rw [lb]; exact (Int.toNat_natCast r).symm) bx bw bb
      rw [Int.toNat_natCast, Int.toNat_natCast] at ans
      -- weights = all_with_sign(w, SPAN_8)
      refine ⟨_, rfl, aw, w, 256, rfl, hW, lw4, fun H1 p1 s1 n1 e1 => ?_⟩
      -- answer = [0]
      refine ⟨(by show 1 ≤ sizeLine; decide), fun p2 n2 => ?_⟩
      have s2 : Same H1 (upd H1 p2 (.lst [.int 0])) := same_upd n2
      have n2' : H p2 = none := s1.free n2
      refine ⟨_, rfl, (r : Int), rfl, by omega, by omega, ?_⟩
      refine for_range (lo := 0) (n := (r : Int).toNat) (fun k σ H' => ∃ v7 v8, σ = [some (.int r), some (.int m), some (.ref ax), some (.ref aw), some (.ref ab), some (.ref p1), some (.ref p2), v7, v8] ∧ Same H1 H' ∧
          H' p2 = some (.lst ((0 :: (List.range k).map (bRow m x w bias)).map V.int)))
        ⟨none, none, rfl, s2, upd_same⟩ ?_ ?_
      · rintro k σ H' hk ⟨v7, v8, rfl, s5, e5⟩
        have hk : k < r := by rw [Int.toNat_natCast] at hk; exact hk
        have kb : k < bias.length := by omega
        have hw : m * k + m ≤ (w.map fun b => ws b 256).length := by
          rw [List.length_map, lw]
          exact row_len hk
        refine ⟨_, rfl, _, rfl, ab, _, _, .int (gi bias k), rfl, rfl, s5.seq (s1.seq hB), (by rw [Int.zero_add]; exact atI_nat (at_map kb)), ?_⟩
        refine ⟨_, _, rfl, ?_⟩
        refine ⟨_, rfl, _, rfl, _, rfl, _, rfl, k, m, ax, p1, x, w.map fun b => ws b 256, (by rw [Int.zero_add]; rfl), s5.seq (s1.seq hX), SqL.of (s5 _ _ e1), hm0, lx, hw, (fun a ha => by have := bx a ha; omega), ?_⟩
        refine ⟨_, _, rfl, rfl, _, rfl, ?_⟩
        refine ⟨_, rfl, .inl ⟨rfl, _, SqL.of e5⟩, _, rfl, _, _, rfl, rfl, (by show (0 : Int) < 4294967296; decide), p2, _, _, rfl, rfl, e5, ?_, ?_⟩
        · rw [List.length_map, List.length_cons, List.length_map, List.length_range]
          exact Nat.lt_of_le_of_lt (show k + 1 ≤ 1024 by omega) (by decide)
        · refine ⟨_, _, rfl, same_store n2 s5, ?_⟩
          rw [upd_same, List.range_succ, List.map_append, ← List.cons_append, List.map_append]
          rfl
      · rintro σ H' ⟨v7, v8, rfl, s5, e5⟩
        rw [Int.toNat_natCast, ← ans] at e5
        exact ⟨_, rfl, q H' p2 e5⟩

end
/-! ### the end -/
theorem all_mk {P : Program} {w : World} {K : PySem.W.Frag} {h : Heap} {mg : Str → Option Value} {fa f0 f1 f2 f3 f4 f5 : Addr} (X : K.In h) (G : h.Ns mainGlobals mg) (hfa : mg "bytes_of" = some (.ref fa))
    {od0 an0 od1 an1 od2 an2 od3 an3 od4 an4 od5 an5 : Option Addr} {sl0 sl1 sl2 sl3 sl4 sl5 : Array (Option Value)} {oc0 kV0 dc0 pm0 cd0 ct0 oc1 kV1 dc1 pm1 cd1 ct1 oc2 kV2 dc2 pm2 cd2 ct2 oc3 kV3 dc3 pm3 cd3 ct3 oc4 kV4 dc4 pm4 cd4 ct4 oc5 kV5 dc5 pm5 cd5 ct5 : Value}
    {t0 t1 t2 t3 : _}
    (a0 : PySem.W.nsIn K mainGlobals "is_refused" = some (some (.ref f0))) (l0 : K.lookup f0 = some ⟨oc0, od0, .func (PySem.W.fnOf "is_refused" "is_refused" (defArgs s_is_refused) (defBody s_is_refused) (defScope s_is_refused) .none kV0 dc0 pm0 an0 cd0 ct0), sl0⟩) (c0 : PySem.W.codeIn K cd0 "is_refused" = true) (k0 : PySem.W.keepIn K (.ref f0) = true)
    (a1 : PySem.W.nsIn K mainGlobals "with_sign" = some (some (.ref f1))) (l1 : K.lookup f1 = some ⟨oc1, od1, .func (PySem.W.fnOf "with_sign" "with_sign" (defArgs s_with_sign) (defBody s_with_sign) (defScope s_with_sign) .none kV1 dc1 pm1 an1 cd1 ct1), sl1⟩) (c1 : PySem.W.codeIn K cd1 "with_sign" = true) (k1 : PySem.W.keepIn K (.ref f1) = true)
    (a2 : PySem.W.nsIn K mainGlobals "all_with_sign" = some (some (.ref f2))) (l2 : K.lookup f2 = some ⟨oc2, od2, .func (PySem.W.fnOf "all_with_sign" "all_with_sign" (defArgs s_all_with_sign) (defBody s_all_with_sign) (defScope s_all_with_sign) .none kV2 dc2 pm2 an2 cd2 ct2), sl2⟩) (c2 : PySem.W.codeIn K cd2 "all_with_sign" = true) (k2 : PySem.W.keepIn K (.ref f2) = true)
    (a3 : PySem.W.nsIn K mainGlobals "hold_in_32_bits" = some (some (.ref f3))) (l3 : K.lookup f3 = some ⟨oc3, od3, .func (PySem.W.fnOf "hold_in_32_bits" "hold_in_32_bits" (defArgs s_hold_in_32_bits) (defBody s_hold_in_32_bits) (defScope s_hold_in_32_bits) .none kV3 dc3 pm3 an3 cd3 ct3), sl3⟩) (c3 : PySem.W.codeIn K cd3 "hold_in_32_bits" = true) (k3 : PySem.W.keepIn K (.ref f3) = true)
    (a4 : PySem.W.nsIn K mainGlobals "row_total" = some (some (.ref f4))) (l4 : K.lookup f4 = some ⟨oc4, od4, .func (PySem.W.fnOf "row_total" "row_total" (defArgs s_row_total) (defBody s_row_total) (defScope s_row_total) .none kV4 dc4 pm4 an4 cd4 ct4), sl4⟩) (c4 : PySem.W.codeIn K cd4 "row_total" = true) (k4 : PySem.W.keepIn K (.ref f4) = true)
    (a5 : PySem.W.nsIn K mainGlobals "bytes_of" = some (some (.ref f5))) (l5 : K.lookup f5 = some ⟨oc5, od5, .func (PySem.W.fnOf "bytes_of" "bytes_of" (defArgs s_bytes_of) (defBody s_bytes_of) (defScope s_bytes_of) .none kV5 dc5 pm5 an5 cd5 ct5), sl5⟩) (c5 : PySem.W.codeIn K cd5 "bytes_of" = true) (k5 : PySem.W.keepIn K (.ref f5) = true)
    (g0 : PySem.W.nsIn K mainGlobals "MOST_ROWS" = some (some (.int 1024 t0)))
    (g1 : PySem.W.nsIn K mainGlobals "MOST_NUMBERS" = some (some (.int 65536 t1)))
    (g2 : PySem.W.nsIn K mainGlobals "SPAN_8" = some (some (.int 256 t2)))
    (g3 : PySem.W.nsIn K mainGlobals "SPAN_32" = some (some (.int 4294967296 t3)))
    (z0 : PySem.W.nsIn K mainGlobals "max" = some none)
    (z1 : PySem.W.nsIn K mainGlobals "min" = some none)
    (z2 : PySem.W.nsIn K mainGlobals "range" = some none)
    : ∃ fd : FuncData, (∀ (s : Shared) (us : List Value), us.length = (["rows", "n", "x", "w", "bias"] : List Str).length → BindsTo s fd ⟨us, []⟩ ((["rows", "n", "x", "w", "bias"] : List Str).zip us)) ∧ ∀ base : Heap, K.In base → base.Ns mainGlobals mg → FnOk P w K mg base CX0 3 fa fd ["rows", "n", "x", "w", "bias"] (spBytes K) := by
  have e := hfa.symm.trans (PySem.W.mg_of X G a5)
  cases e
  have F0 := fun_mk (st := s_is_refused) l0 c0 k0
  have b0 := F0.binds (ps := ["rows", "n"]) fun _ _ _ _ _ _ us hl => match us, hl with | [_, _], _ => rfl
  have F1 := fun_mk (st := s_with_sign) l1 c1 k1
  have b1 := F1.binds (ps := ["bits", "span"]) fun _ _ _ _ _ _ us hl => match us, hl with | [_, _], _ => rfl
  have F2 := fun_mk (st := s_all_with_sign) l2 c2 k2
  have b2 := F2.binds (ps := ["numbers", "span"]) fun _ _ _ _ _ _ us hl => match us, hl with | [_, _], _ => rfl
  have F3 := fun_mk (st := s_hold_in_32_bits) l3 c3 k3
  have b3 := F3.binds (ps := ["number"]) fun _ _ _ _ _ _ us hl => match us, hl with | [_], _ => rfl
  have F4 := fun_mk (st := s_row_total) l4 c4 k4
  have b4 := F4.binds (ps := ["i", "n", "x", "w"]) fun _ _ _ _ _ _ us hl => match us, hl with | [_, _, _, _], _ => rfl
  have F5 := fun_mk (st := s_bytes_of) l5 c5 k5
  have b5 := F5.binds (ps := ["rows", "n", "x", "w", "bias"]) fun _ _ _ _ _ _ us hl => match us, hl with | [_, _, _, _, _], _ => rfl
  have T : Txt K mg ⟨_, _, _, _, _, _, _, _, _, _, _, _⟩ := ⟨F0, b0, PySem.W.mg_of X G a0, F1, b1, PySem.W.mg_of X G a1, F2, b2, PySem.W.mg_of X G a2, F3, b3, PySem.W.mg_of X G a3, F4, b4, PySem.W.mg_of X G a4, F5, b5, PySem.W.mg_of X G a5, ⟨_, PySem.W.mg_of X G g0⟩, ⟨_, PySem.W.mg_of X G g1⟩, ⟨_, PySem.W.mg_of X G g2⟩, ⟨_, PySem.W.mg_of X G g3⟩, PySem.W.mg_none_of X G z0, PySem.W.mg_none_of X G z1, PySem.W.mg_none_of X G z2⟩
  exact ⟨_, fun s us hu => match us, hu with | [_, _, _, _, _], _ => .of_eq rfl, fun base _ _ => ok_bytes_of T⟩
end Sp
open PySem PySem.W PyProof.Rows
set_option maxRecDepth 100000 in
set_option maxHeartbeats 8000000 in
theorem PySem.Challenge.cw_smallproducts_s01_bytes_of_holds : PySem.Challenge.rw_smallproducts_s01_bytes_of.Holds := by
  w_on; k_headS; (case hw => exact ⟨[.int 0, .int 0, .list [], .list [], .list []], by decide +kernel, by decide +kernel⟩)
  k_fillS
  refine L2.walk_specK (r := PySem.Challenge.rw_smallproducts_s01_bytes_of) (k := 3) (CX := L2.CX0) (ps := ["rows", "n", "x", "w", "bias"]) (sp := Sp.spBytes) (by decide +kernel) rfl rfl ⟨rfl, by decide, by decide⟩ (fun w h Y => PySem.W.kIn_of Y) ?F ?S (fun _ _ _ _ z => z)
  case F =>
    intro w mg fa h Y KX G hmg
    refine' Sp.all_mk KX G hmg ?my_a0 ?my_l0 ?my_c0 ?my_k0 ?my_a1 ?my_l1 ?my_c1 ?my_k1 ?my_a2 ?my_l2 ?my_c2 ?my_k2 ?my_a3 ?my_l3 ?my_c3 ?my_k3 ?my_a4 ?my_l4 ?my_c4 ?my_k4 ?my_a5 ?my_l5 ?my_c5 ?my_k5 ?my_g0 ?my_g1 ?my_g2 ?my_g3 ?my_z0 ?my_z1 ?my_z2
    (case my_a0 => k_is)
    (case my_l0 => k_is)
    (case my_c0 => k_is)
    (case my_k0 => k_is)
    (case my_a1 => k_is)
    (case my_l1 => k_is)
    (case my_c1 => k_is)
    (case my_k1 => k_is)
    (case my_a2 => k_is)
    (case my_l2 => k_is)
    (case my_c2 => k_is)
    (case my_k2 => k_is)
    (case my_a3 => k_is)
    (case my_l3 => k_is)
    (case my_c3 => k_is)
    (case my_k3 => k_is)
    (case my_a4 => k_is)
    (case my_l4 => k_is)
    (case my_c4 => k_is)
    (case my_k4 => k_is)
    (case my_a5 => k_is)
    (case my_l5 => k_is)
    (case my_c5 => k_is)
    (case my_k5 => k_is)
    (case my_g0 => k_is)
    (case my_g1 => k_is)
    (case my_g2 => k_is)
    (case my_g3 => k_is)
    (case my_z0 => k_is)
    (case my_z1 => k_is)
    (case my_z2 => k_is)
  case S =>
    intro K H xs a hO hwi hask hx
    obtain ⟨rows, n, x, w, bias, u⟩ := a
    cases hx with
    | cons h1 hx =>
    cases hx with
    | cons h2 hx =>
    cases hx with
    | cons h3 hx =>
    cases hx with
    | cons h4 hx =>
    cases hx with
    | cons h5 hx =>
    cases hx
    cases h1
    cases h2
    cases h3 with
    | lst s3 d3 =>
    cases h4 with
    | lst s4 d4 =>
    cases h5 with
    | lst s5 d5 =>
    have e3 := L2.ints_dw x _ d3
    have e4 := L2.ints_dw w _ d4
    have e5 := L2.ints_dw bias _ d5
    subst e3 e4 e5
    exact ⟨_, _, _, _, _, x, w, bias, rfl, s3, s4, s5, hask, fun H' p hp => .lst (L2.SqL.of hp) (L2.dw_ints _)⟩
#print axioms PySem.Challenge.cw_smallproducts_s01_bytes_of_holds

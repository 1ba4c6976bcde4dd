import PyProof.Rows.All
import Wide.All
import OpenK.AllK
import Wide.FinOn
import Open.SpecLaws
import KE.OsGo
import HandS.ForSpec
import HandS.Comp
import HandS.Wide
import PySem.Challenge.RW_smallproducts_s04_sum_of
set_option Elab.async false
set_option linter.all false
set_option maxRecDepth 100000
set_option maxHeartbeats 2000000
namespace Sp
/-! ### the mathematics: plain lists and numbers -/
def ws (b sp : Int) : Int := if sp ≤ 2 * b then b - sp else b
def hold (x : Int) : Int := max (-2147483648) (min 2147483647 x)
def gi (l : List Int) (j : Nat) : Int := l.getD j 0
def upto (F : Nat → Int) : Nat → Int
  | 0 => 0
  | k + 1 => upto F k + F k
def dot (xs ws : List Int) (n i : Nat) : Int := upto (fun j => gi xs j * gi ws (n * i + j)) n
theorem upto_congr {F G : Nat → Int} : ∀ {n : Nat}, (∀ k, k < n → F k = G k) → upto F n = upto G n
  | 0, _ => rfl
  | n + 1, h => by
    show upto F n + F n = upto G n + G n
    rw [upto_congr (fun k hk => h k (Nat.lt_succ_of_lt hk)), h n (Nat.lt_succ_self n)]
theorem total_take (l : List Int) (F : Nat → Int) (h : ∀ k, k < l.length → l[k]? = some (F k)) : ∀ n, n ≤ l.length → Sv05.total (l.take n) = upto F n
  | 0, _ => rfl
  | n + 1, hn => by
    have e : l.take (n + 1) = l.take n ++ [F n] := by
      rw [List.take_add_one, h n hn]
      rfl
    have ih := total_take l F h n (Nat.le_of_succ_le hn)
    unfold Sv05.total at ih ⊢
    rw [e, List.foldl_append, ih]
    rfl
theorem total_is {l : List Int} {F : Nat → Int} {n : Nat} (hl : l.length = n) (h : ∀ k, k < n → l[k]? = some (F k)) : Sv05.total l = upto F n := by
  subst hl
  have q := total_take l F h l.length (Nat.le_refl _)
  rw [List.take_length] at q
  exact q
theorem gi_get {l : List Int} {j : Nat} (h : j < l.length) : l[j]? = some (gi l j) := by
  unfold gi
  rw [List.getElem?_eq_getElem h, List.getD_eq_getElem?_getD, List.getElem?_eq_getElem h]
  rfl
theorem gi_mem {l : List Int} {j : Nat} (h : j < l.length) : gi l j ∈ l := by
  have e := gi_get h
  exact List.mem_of_getElem? e
theorem gi_map {f : Int → Int} {l : List Int} {j : Nat} (h : j < l.length) : gi (l.map f) j = f (gi l j) := by
  have e := gi_get (l := l.map f) (j := j) (by rw [List.length_map]; exact h)
  rw [List.getElem?_map, gi_get h] at e
  exact (Option.some.inj e).symm
theorem row_len {n i r : Nat} (hi : i < r) : n * i + n ≤ r * n := by
  have h : n * (i + 1) ≤ n * r := Nat.mul_le_mul_left n hi
  rw [Nat.mul_succ, Nat.mul_comm n r] at h
  exact h
/-- the specification's row, element by element -/
theorem zip_dot {xs ys : List Int} {n r i : Nat} (g : Nat × Nat → Int) (p q : Int → Int) (hx : xs.length = n) (hy : ys.length = r * n) (hi : i < r)
    (hg : ∀ a ∈ xs, ∀ b ∈ ys, g (a.toNat, b.toNat) = p a * q b) :
    Sv05.total (((Sv05Neutral.n xs).zip (Sv05.weights (Sv05Neutral.n ys) n i)).map g) = dot (xs.map p) (ys.map q) n i := by
  have hb := row_len (n := n) hi
  have lw : (Sv05.weights (Sv05Neutral.n ys) n i).length = n := by
    unfold Sv05.weights Sv05Neutral.n
    rw [List.length_take, List.length_drop, List.length_map, hy]
    omega
  have lx : (Sv05Neutral.n xs).length = n := by
    unfold Sv05Neutral.n
    rw [List.length_map, hx]
  refine total_is (by rw [List.length_map, List.length_zip, lw, lx, Nat.min_self]) fun k hk => ?_
  have k1 : k < xs.length := by omega
  have k2 : n * i + k < ys.length := by omega
  have e1 : (Sv05Neutral.n xs)[k]? = some (gi xs k).toNat := by
    unfold Sv05Neutral.n
    rw [List.getElem?_map, gi_get k1]
    rfl
  have e2 : (Sv05.weights (Sv05Neutral.n ys) n i)[k]? = some (gi ys (n * i + k)).toNat := by
    unfold Sv05.weights Sv05Neutral.n
    rw [List.getElem?_take_of_lt hk, List.getElem?_drop, List.getElem?_map, gi_get k2]
    rfl
  have e3 : ((Sv05Neutral.n xs).zip (Sv05.weights (Sv05Neutral.n ys) n i))[k]? = some ((gi xs k).toNat, (gi ys (n * i + k)).toNat) := List.getElem?_zip_eq_some.mpr ⟨e1, e2⟩
  rw [List.getElem?_map, e3, gi_map k1, gi_map k2]
  show some (g _) = _
  rw [hg _ (gi_mem k1) _ (gi_mem k2)]
theorem signed_is {w : Nat} {b : Int} (hw : 0 < w) (h0 : 0 ≤ b) (h1 : b < 2 ^ w) : Sv05.signed w b.toNat = ws b (2 ^ w) := by
  obtain ⟨v, rfl⟩ : ∃ v, w = v + 1 := ⟨w - 1, by omega⟩
  obtain ⟨m, rfl⟩ : ∃ m : Nat, b = (m : Int) := ⟨b.toNat, by omega⟩
  have h1' : m < 2 ^ (v + 1) := by
    have : (m : Int) < ((2 ^ (v + 1) : Nat) : Int) := by rw [Int.natCast_pow]; exact h1
    omega
  have e : ((2 : Int) ^ (v + 1)) = ((2 ^ (v + 1) : Nat) : Int) := by rw [Int.natCast_pow]; rfl
  unfold Sv05.signed ws
  rw [e, Int.toNat_natCast, Nat.mod_eq_of_lt h1', Nat.add_sub_cancel]
  have p : 2 ^ (v + 1) = 2 * 2 ^ v := by rw [Nat.pow_succ, Nat.mul_comm]
  rw [p] at h1' ⊢
  by_cases c : m < 2 ^ v
  · rw [if_pos c, if_neg (by omega)]
  · rw [if_neg c, if_pos (by omega)]
theorem signed8 {b : Int} (h : 0 ≤ b ∧ b < 256) : Sv05.signed 8 b.toNat = ws b 256 := signed_is (w := 8) (by decide) h.1 h.2
theorem signed16 {b : Int} (h : 0 ≤ b ∧ b < 65536) : Sv05.signed 16 b.toNat = ws b 65536 := signed_is (w := 16) (by decide) h.1 h.2
theorem signed32 {b : Int} (h : 0 ≤ b ∧ b < 4294967296) : Sv05.signed 32 b.toNat = ws b 4294967296 := signed_is (w := 32) (by decide) h.1 h.2
theorem unsigned_is (w : Nat) (x : Int) : ((Sv05.unsigned w x : Nat) : Int) = x % (2 ^ w : Nat) := by
  unfold Sv05.unsigned
  have h : (0 : Int) < ((2 ^ w : Nat) : Int) := by
    have := Nat.two_pow_pos w
    omega
  exact Int.toNat_of_nonneg (Int.emod_nonneg _ (by omega))
theorem below_iff {top : Int} {l : List Int} (h : Sv05Neutral.below top l = true) : ∀ a ∈ l, 0 ≤ a ∧ a < top := by
  intro a ha
  unfold Sv05Neutral.below at h
  have q := List.all_eq_true.mp h a ha
  rw [Bool.and_eq_true, decide_eq_true_eq, decide_eq_true_eq] at q
  exact q
theorem many_iff {top k : Int} {yes : Bool} {l : List Int} (h : Sv05Neutral.many top yes k l = true) : (∀ a ∈ l, 0 ≤ a ∧ a < top) ∧ (l.length : Int) = if yes = true then k else 0 := by
  unfold Sv05Neutral.many at h
  rw [Bool.and_eq_true, decide_eq_true_eq] at h
  exact ⟨below_iff h.1, h.2⟩
theorem size_iff {r n : Int} (h0 : 0 ≤ r) (h1 : 0 ≤ n) : Sv05.isSize r.toNat n.toNat = true ↔ ¬ (1024 < r ∨ 65536 < n) := by
  unfold Sv05.isSize
  rw [Bool.and_eq_true, decide_eq_true_eq, decide_eq_true_eq]
  omega
theorem sizes_iff {r n : Int} (h : Sv05Neutral.sizes r n = true) : 0 ≤ r ∧ 0 ≤ n ∧ ((r ≤ 8 ∧ n ≤ 500) ∨ (r ≤ 1024 ∧ n = 0) ∨ 1024 < r ∨ 65536 < n) := by
  unfold Sv05Neutral.sizes at h
  rw [Bool.and_eq_true, Bool.or_eq_true, Bool.or_eq_true, decide_eq_true_eq, decide_eq_true_eq] at h
  obtain ⟨hb, hc⟩ := h
  have b := below_iff hb
  have h0 := (b r (by simp)).1
  have h1 := (b n (by simp)).1
  refine ⟨h0, h1, ?_⟩
  rcases hc with h | h | h
  · exact .inl h
  · exact .inr (.inl h)
  · have : ¬ Sv05.isSize r.toNat n.toNat = true := by
      intro q
      rw [q] at h
      cases h
    rw [size_iff h0 h1] at this
    omega
/-! the two answers -/
def bRow (n : Nat) (x w bias : List Int) (i : Nat) : Int := hold (ws (gi bias i) 4294967296 + dot x (w.map fun b => ws b 256) n i) % 4294967296
def wRow (n : Nat) (x w : List Int) (i : Nat) : Int := dot (x.map fun b => ws b 65536) (w.map fun b => ws b 65536) n i % 18446744073709551616
theorem at_is {l : List Int} {i : Nat} (h : i < l.length) : Sv05.at_ (Sv05Neutral.n l) i = (gi l i).toNat := by
  unfold Sv05.at_ Sv05Neutral.n
  rw [List.getD_eq_getElem?_getD, List.getElem?_map, gi_get h]
  rfl
theorem held_is (x : Int) : Sv05.held x = hold x := rfl
theorem bytes_no {rows n : Int} {x w bias : List Int} (h0 : 0 ≤ rows) (h1 : 0 ≤ n) (h : 1024 < rows ∨ 65536 < n) : PySv05.bytes_of rows n x w bias = [-1] := by
  show (let y := Sv05.does (.bytes (Sv05Neutral.n x) (Sv05Neutral.n w) (Sv05Neutral.n bias) rows.toNat n.toNat); (match y.code with | some z => [z] | none => []) ++ y.l.map Sv05Neutral.said) = [-1]
  unfold Sv05.does
  have e : ¬ Sv05.isSize rows.toNat n.toNat = true := fun q => (size_iff h0 h1).mp q h
  simp only [if_neg e]
  rfl
theorem bytes_yes {rows n : Int} {x w bias : List Int} (h0 : 0 ≤ rows) (h1 : 0 ≤ n) (h : ¬ (1024 < rows ∨ 65536 < n)) (hx : x.length = n.toNat) (hw : w.length = rows.toNat * n.toNat) (hb : bias.length = rows.toNat)
    (bx : ∀ a ∈ x, 0 ≤ a ∧ a < 256) (bw : ∀ a ∈ w, 0 ≤ a ∧ a < 256) (bb : ∀ a ∈ bias, 0 ≤ a ∧ a < 4294967296) :
    PySv05.bytes_of rows n x w bias = 0 :: (List.range rows.toNat).map (bRow n.toNat x w bias) := by
  show (let y := Sv05.does (.bytes (Sv05Neutral.n x) (Sv05Neutral.n w) (Sv05Neutral.n bias) rows.toNat n.toNat); (match y.code with | some z => [z] | none => []) ++ y.l.map Sv05Neutral.said) = _
  unfold Sv05.does
  have e : Sv05.isSize rows.toNat n.toNat = true := (size_iff h0 h1).mpr h
  simp only [if_pos e]
  unfold Sv05.code
  simp only [List.map_map]
  refine congrArg (List.cons 0) (List.map_congr_left fun i hi => ?_)
  have hi := List.mem_range.mp hi
  show ((Sv05.unsigned 32 _ : Nat) : Int) = _
  rw [unsigned_is, held_is, at_is (by omega), signed32 (bb _ (gi_mem (by omega))), zip_dot (p := fun a => a) (q := fun b => ws b 256) _ hx hw hi (fun a ha b hb => by
    show ((a.toNat : Nat) : Int) * Sv05.signed 8 b.toNat = _
    rw [signed8 (bw b hb), Int.toNat_of_nonneg (bx a ha).1]), List.map_id']
  rfl
theorem words_no {rows n : Int} {x w : List Int} (h0 : 0 ≤ rows) (h1 : 0 ≤ n) (h : 1024 < rows ∨ 65536 < n) : PySv05.words rows n x w = [-1] := by
  show (let y := Sv05.does (.words (Sv05Neutral.n x) (Sv05Neutral.n w) rows.toNat n.toNat); (match y.code with | some z => [z] | none => []) ++ y.l.map Sv05Neutral.said) = [-1]
  unfold Sv05.does
  have e : ¬ Sv05.isSize rows.toNat n.toNat = true := fun q => (size_iff h0 h1).mp q h
  simp only [if_neg e]
  rfl
theorem words_yes {rows n : Int} {x w : List Int} (h0 : 0 ≤ rows) (h1 : 0 ≤ n) (h : ¬ (1024 < rows ∨ 65536 < n)) (hx : x.length = n.toNat) (hw : w.length = rows.toNat * n.toNat)
    (bx : ∀ a ∈ x, 0 ≤ a ∧ a < 65536) (bw : ∀ a ∈ w, 0 ≤ a ∧ a < 65536) :
    PySv05.words rows n x w = 0 :: (List.range rows.toNat).map (wRow n.toNat x w) := by
  show (let y := Sv05.does (.words (Sv05Neutral.n x) (Sv05Neutral.n w) rows.toNat n.toNat); (match y.code with | some z => [z] | none => []) ++ y.l.map Sv05Neutral.said) = _
  unfold Sv05.does
  have e : Sv05.isSize rows.toNat n.toNat = true := (size_iff h0 h1).mpr h
  simp only [if_pos e]
  unfold Sv05.code
  simp only [List.map_map]
  refine congrArg (List.cons 0) (List.map_congr_left fun i hi => ?_)
  have hi := List.mem_range.mp hi
  show ((Sv05.unsigned 64 _ : Nat) : Int) = _
  rw [unsigned_is, zip_dot (p := fun b => ws b 65536) (q := fun b => ws b 65536) _ hx hw hi (fun a ha b hb => by
    show Sv05.signed 16 a.toNat * Sv05.signed 16 b.toNat = _
    rw [signed16 (bw b hb), signed16 (bx a ha)])]
  rfl
end Sp
namespace Sp
/-! ### scale and sum, in whole numbers -/
theorem at_all (l : List Int) (i : Nat) : Sv05.at_ (Sv05Neutral.n l) i = (gi l i).toNat := by
  by_cases h : i < l.length
  · exact at_is h
  · unfold Sv05.at_ Sv05Neutral.n gi
    rw [List.getD_eq_getElem?_getD, List.getD_eq_getElem?_getD, List.getElem?_map, List.getElem?_eq_none (by omega)]
    rfl
theorem gi_within {l : List Int} {top : Int} (ht : 0 < top) (h : ∀ a ∈ l, 0 ≤ a ∧ a < top) (i : Nat) : 0 ≤ gi l i ∧ gi l i < top := by
  by_cases c : i < l.length
  · exact h _ (gi_mem c)
  · unfold gi
    rw [List.getD_eq_getElem?_getD, List.getElem?_eq_none (by omega)]
    exact ⟨Int.le_refl 0, ht⟩
def scaleI (m s z x : Int) : Int := max 0 (min 255 (z + (2 * (ws x 4294967296 * m) + 2 ^ s.toNat) / (2 * 2 ^ s.toNat)))
def scaleOk (n s z : Int) : Prop := n ≤ 65536 ∧ 0 ≤ s ∧ s ≤ 62 ∧ 0 ≤ z ∧ z ≤ 255
theorem scale_asked_iff {n m s z : Int} {l : List Int} (h : PySv05.scale_asked n m s z l = true) : 0 ≤ n ∧ (n ≤ 500 ∨ 65536 < n) ∧ (-2147483648 ≤ m ∧ m < 2147483648) ∧ (-2147483648 ≤ s ∧ s < 2147483648) ∧ (-2147483648 ≤ z ∧ z < 2147483648) ∧
    (∀ a ∈ l, 0 ≤ a ∧ a < 4294967296) ∧ (l.length : Int) = if n ≤ 65536 then n else 0 := by
  have h : (Sv05Neutral.below (2 ^ 32) [n] && ((decide (n ≤ 500) || decide (65536 < n)) && (Sv05Neutral.whole32 m && (Sv05Neutral.whole32 s && (Sv05Neutral.whole32 z && Sv05Neutral.many (2 ^ 32) (decide (n ≤ 65536)) n l))))) = true := h
  simp only [Bool.and_eq_true, Bool.or_eq_true, decide_eq_true_eq, Sv05Neutral.whole32] at h
  obtain ⟨h1, h2, h3, h4, h5, h6⟩ := h
  obtain ⟨h7, h8⟩ := many_iff h6
  simp only [decide_eq_true_eq] at h8
  exact ⟨(below_iff h1 n (by simp)).1, h2, h3, h4, h5, h7, h8⟩
theorem scale_no {n m s z : Int} {l : List Int} (h0 : 0 ≤ n) (h : ¬ scaleOk n s z) : PySv05.scale n m s z l = [-1] := by
  show (let y := Sv05.does (.scale (Sv05Neutral.n l) n.toNat m s z); (match y.code with | some z => [z] | none => []) ++ y.l.map Sv05Neutral.said) = [-1]
  unfold Sv05.does
  have e : ¬ (n.toNat ≤ 65536 ∧ 0 ≤ s ∧ s ≤ 62 ∧ 0 ≤ z ∧ z ≤ 255) := fun q => h ⟨by omega, q.2⟩
  simp only [if_neg e]
  rfl
theorem scale_yes {n m s z : Int} {l : List Int} (h0 : 0 ≤ n) (h : scaleOk n s z) (hl : ∀ a ∈ l, 0 ≤ a ∧ a < 4294967296) : PySv05.scale n m s z l = 0 :: l.map (scaleI m s z) := by
  show (let y := Sv05.does (.scale (Sv05Neutral.n l) n.toNat m s z); (match y.code with | some z => [z] | none => []) ++ y.l.map Sv05Neutral.said) = _
  unfold Sv05.does
  have e : n.toNat ≤ 65536 ∧ 0 ≤ s ∧ s ≤ 62 ∧ 0 ≤ z ∧ z ≤ 255 := ⟨by have := h.1; omega, h.2⟩
  simp only [if_pos e]
  unfold Sv05.code Sv05Neutral.n
  simp only [List.map_map]
  refine congrArg (List.cons 0) (List.map_congr_left fun x hx => ?_)
  show (((max 0 (min 255 (z + Sv05.nearest (Sv05.signed 32 x.toNat * m) s.toNat))).toNat : Nat) : Int) = _
  rw [Int.toNat_of_nonneg (by omega), signed32 (hl x hx)]
  unfold Sv05.nearest scaleI
  rw [Int.natCast_pow]
  rfl
/-! lanes -/
theorem lanes_iff {l : List Int} (h : Sv05Neutral.lanes l = true) : (∀ a ∈ l, 0 ≤ a ∧ a < 4294967296) ∧ l.length ≤ 16 := by
  unfold Sv05Neutral.lanes at h
  rw [Bool.and_eq_true, decide_eq_true_eq] at h
  exact ⟨below_iff h.1, h.2⟩
def partI (bits : Nat) (x : Int) (i : Nat) : Int := x / 2 ^ (bits * i) % 2 ^ bits
theorem part_is {bits i : Nat} {x : Int} (h : 0 ≤ x) : ((Sv05.part bits x.toNat i : Nat) : Int) = partI bits x i := by
  obtain ⟨m, rfl⟩ : ∃ m : Nat, x = (m : Int) := ⟨x.toNat, by omega⟩
  unfold Sv05.part partI
  rw [Int.toNat_natCast, Int.natCast_emod, Int.natCast_ediv, Int.natCast_pow, Int.natCast_pow]
  rfl
theorem partI_within (bits i : Nat) (x : Int) : 0 ≤ partI bits x i ∧ partI bits x i < 2 ^ bits := by
  have h : (0 : Int) < 2 ^ bits := by
    have := Nat.two_pow_pos bits
    have e : ((2 : Int) ^ bits) = ((2 ^ bits : Nat) : Int) := by rw [Int.natCast_pow]; rfl
    omega
  exact ⟨Int.emod_nonneg _ (by omega), Int.emod_lt_of_pos _ h⟩
theorem signed_part {bits i : Nat} {x : Int} (hb : 0 < bits) (h : 0 ≤ x) : Sv05.signed bits (Sv05.part bits x.toNat i) = ws (partI bits x i) (2 ^ bits) := by
  have w := partI_within bits i x
  rw [← signed_is hb w.1 w.2, ← part_is h, Int.toNat_natCast]
def fourI (a b : Int) : Int := partI 8 a 0 * ws (partI 8 b 0) 256 + partI 8 a 1 * ws (partI 8 b 1) 256 + partI 8 a 2 * ws (partI 8 b 2) 256 + partI 8 a 3 * ws (partI 8 b 3) 256
def twoI (a b : Int) : Int := ws (partI 16 a 0) 65536 * ws (partI 16 b 0) 65536 + ws (partI 16 a 1) 65536 * ws (partI 16 b 1) 65536
def laneI (kind s a b : Int) : Int :=
  if kind = 0 then (ws s 4294967296 + fourI a b) % 4294967296
  else if kind = 1 then hold (ws s 4294967296 + fourI a b) % 4294967296
  else if kind = 2 then (ws s 4294967296 + twoI a b) % 4294967296
  else if kind = 3 then hold (ws s 4294967296 + twoI a b) % 4294967296
  else s
theorem four_is {a b : Int} (ha : 0 ≤ a) (hb : 0 ≤ b) : Sv05.total ((List.range 4).map fun i => (Sv05.part 8 a.toNat i : Int) * Sv05.signed 8 (Sv05.part 8 b.toNat i)) = fourI a b := by
  show (0 : Int) + (Sv05.part 8 a.toNat 0 : Int) * Sv05.signed 8 (Sv05.part 8 b.toNat 0) + (Sv05.part 8 a.toNat 1 : Int) * Sv05.signed 8 (Sv05.part 8 b.toNat 1) + (Sv05.part 8 a.toNat 2 : Int) * Sv05.signed 8 (Sv05.part 8 b.toNat 2) + (Sv05.part 8 a.toNat 3 : Int) * Sv05.signed 8 (Sv05.part 8 b.toNat 3) = _
  rw [part_is ha, part_is ha, part_is ha, part_is ha, signed_part (by decide) hb, signed_part (by decide) hb, signed_part (by decide) hb, signed_part (by decide) hb, Int.zero_add]
  rfl
theorem two_is {a b : Int} (ha : 0 ≤ a) (hb : 0 ≤ b) : Sv05.total ((List.range 2).map fun i => Sv05.signed 16 (Sv05.part 16 a.toNat i) * Sv05.signed 16 (Sv05.part 16 b.toNat i)) = twoI a b := by
  show (0 : Int) + Sv05.signed 16 (Sv05.part 16 a.toNat 0) * Sv05.signed 16 (Sv05.part 16 b.toNat 0) + Sv05.signed 16 (Sv05.part 16 a.toNat 1) * Sv05.signed 16 (Sv05.part 16 b.toNat 1) = _
  rw [signed_part (by decide) ha, signed_part (by decide) ha, signed_part (by decide) hb, signed_part (by decide) hb, Int.zero_add]
  rfl
theorem lane_is {kind s a b : Int} (hs : 0 ≤ s ∧ s < 4294967296) (ha : 0 ≤ a) (hb : 0 ≤ b) : ((Sv05.laneSum kind s.toNat a.toNat b.toNat : Nat) : Int) = laneI kind s a b := by
  unfold Sv05.laneSum laneI
  dsimp only
  rw [four_is ha hb, two_is ha hb, signed32 hs]
  by_cases c0 : kind = 0
  · rw [if_pos c0, if_pos c0, unsigned_is]
    rfl
  rw [if_neg c0, if_neg c0]
  by_cases c1 : kind = 1
  · rw [if_pos c1, if_pos c1, unsigned_is]
    rfl
  rw [if_neg c1, if_neg c1]
  by_cases c2 : kind = 2
  · rw [if_pos c2, if_pos c2, unsigned_is]
    rfl
  rw [if_neg c2, if_neg c2]
  by_cases c3 : kind = 3
  · rw [if_pos c3, if_pos c3, unsigned_is]
    rfl
  rw [if_neg c3, if_neg c3]
  exact Int.toNat_of_nonneg hs.1
/-- bit j of k, as a remainder -/
def inKI (k : Int) (j : Nat) : Prop := k / 2 ^ j % 2 = 1
instance (k : Int) (j : Nat) : Decidable (inKI k j) := inferInstanceAs (Decidable (k / 2 ^ j % 2 = 1))
theorem inK_iff {k : Int} {j : Nat} (h : 0 ≤ k) : Sv05.inK k.toNat j = true ↔ inKI k j := by
  obtain ⟨m, rfl⟩ : ∃ m : Nat, k = (m : Int) := ⟨k.toNat, by omega⟩
  unfold Sv05.inK inKI
  rw [Int.toNat_natCast, Nat.testBit_eq_decide_div_mod_eq, decide_eq_true_eq]
  have e : ((2 : Int) ^ j) = ((2 ^ j : Nat) : Int) := by rw [Int.natCast_pow]; rfl
  rw [e]
  omega
theorem sum_asked_iff {k kind : Int} {s a b : List Int} (h : PySv05.sum_of_asked k kind s a b = true) : (0 ≤ k ∧ k < 65536) ∧ (-2147483648 ≤ kind ∧ kind < 2147483648) ∧ ((∀ x ∈ s, 0 ≤ x ∧ x < 4294967296) ∧ s.length ≤ 16) ∧ ((∀ x ∈ a, 0 ≤ x ∧ x < 4294967296) ∧ a.length ≤ 16) ∧ ((∀ x ∈ b, 0 ≤ x ∧ x < 4294967296) ∧ b.length ≤ 16) := by
  have h : (Sv05Neutral.below 65536 [k] && (Sv05Neutral.whole32 kind && (Sv05Neutral.lanes s && (Sv05Neutral.lanes a && Sv05Neutral.lanes b)))) = true := h
  simp only [Bool.and_eq_true, decide_eq_true_eq, Sv05Neutral.whole32] at h
  obtain ⟨h1, h2, h3, h4, h5⟩ := h
  exact ⟨below_iff h1 k (by simp), h2, lanes_iff h3, lanes_iff h4, lanes_iff h5⟩
theorem sum_is {k kind : Int} {s a b : List Int} (hk : 0 ≤ k) (hs : ∀ x ∈ s, 0 ≤ x ∧ x < 4294967296) (ha : ∀ x ∈ a, 0 ≤ x ∧ x < 4294967296) (hb : ∀ x ∈ b, 0 ≤ x ∧ x < 4294967296) :
    PySv05.sum_of k kind s a b = (List.range 16).map fun j => if inKI k j then laneI kind (gi s j) (gi a j) (gi b j) else gi s j := by
  show ([] : List Int) ++ (((List.range 16).map fun j => if Sv05.inK k.toNat j = true then Sv05.laneSum kind (Sv05.at_ (Sv05Neutral.n s) j) (Sv05.at_ (Sv05Neutral.n a) j) (Sv05.at_ (Sv05Neutral.n b) j) else Sv05.at_ (Sv05Neutral.n s) j).map some).map Sv05Neutral.said = _
  rw [List.nil_append, List.map_map, List.map_map]
  refine List.map_congr_left fun j _ => ?_
  have ws := gi_within (by decide) hs j
  have wa := gi_within (by decide) ha j
  have wb := gi_within (by decide) hb j
  show (((if Sv05.inK k.toNat j = true then Sv05.laneSum kind (Sv05.at_ (Sv05Neutral.n s) j) (Sv05.at_ (Sv05Neutral.n a) j) (Sv05.at_ (Sv05Neutral.n b) j) else Sv05.at_ (Sv05Neutral.n s) j) : Nat) : Int) = _
  rw [at_all, at_all, at_all]
  by_cases c : inKI k j
  · rw [if_pos c, if_pos ((inK_iff hk).mpr c)]
    exact lane_is ws wa.1 wb.1
  · rw [if_neg c, if_neg (fun z => c ((inK_iff hk).mp z))]
    exact Int.toNat_of_nonneg ws.1
end Sp

namespace Sp
open PySem PySem.Spec PyProof.Rows L2
open PySem.W (Codec)
/-! ### the text by places -/
def top (i : Nat) : Stmt := PySem.Challenge.pw_smallproducts_s04_sum_of.main.body.getD i (.Pass ⟨0, 0, 0, 0⟩)
abbrev s_with_sign : Stmt := top 5
abbrev s_all_with_sign : Stmt := top 6
abbrev s_hold_in_32_bits : Stmt := top 7
abbrev s_sixteen : Stmt := top 8
abbrev s_is_in : Stmt := top 9
abbrev s_parts : Stmt := top 10
abbrev s_row_total : Stmt := top 11
abbrev s_lane_products : Stmt := top 12
abbrev s_lane_sum : Stmt := top 13
abbrev s_sum_of : Stmt := top 14
/-- where each def stands -/
structure Ad where
  f_with_sign : Addr
  d_with_sign : FuncData
  f_all_with_sign : Addr
  d_all_with_sign : FuncData
  f_hold_in_32_bits : Addr
  d_hold_in_32_bits : FuncData
  f_sixteen : Addr
  d_sixteen : FuncData
  f_is_in : Addr
  d_is_in : FuncData
  f_parts : Addr
  d_parts : FuncData
  f_row_total : Addr
  d_row_total : FuncData
  f_lane_products : Addr
  d_lane_products : FuncData
  f_lane_sum : Addr
  d_lane_sum : FuncData
  f_sum_of : Addr
  d_sum_of : FuncData
/-- what the top has written -/
structure Txt (K : PySem.W.Frag) (mg : Str → Option Value) (A : Ad) : Prop where
  F_with_sign : Fun K "with_sign" "with_sign" s_with_sign A.f_with_sign A.d_with_sign
  b_with_sign : Binds K A.d_with_sign ["bits", "span"] []
  g_with_sign : mg "with_sign" = some (.ref A.f_with_sign)
  F_all_with_sign : Fun K "all_with_sign" "all_with_sign" s_all_with_sign A.f_all_with_sign A.d_all_with_sign
  b_all_with_sign : Binds K A.d_all_with_sign ["numbers", "span"] []
  g_all_with_sign : mg "all_with_sign" = some (.ref A.f_all_with_sign)
  F_hold_in_32_bits : Fun K "hold_in_32_bits" "hold_in_32_bits" s_hold_in_32_bits A.f_hold_in_32_bits A.d_hold_in_32_bits
  b_hold_in_32_bits : Binds K A.d_hold_in_32_bits ["number"] []
  g_hold_in_32_bits : mg "hold_in_32_bits" = some (.ref A.f_hold_in_32_bits)
  F_sixteen : Fun K "sixteen" "sixteen" s_sixteen A.f_sixteen A.d_sixteen
  b_sixteen : Binds K A.d_sixteen ["lanes"] []
  g_sixteen : mg "sixteen" = some (.ref A.f_sixteen)
  F_is_in : Fun K "is_in" "is_in" s_is_in A.f_is_in A.d_is_in
  b_is_in : Binds K A.d_is_in ["k", "j"] []
  g_is_in : mg "is_in" = some (.ref A.f_is_in)
  F_parts : Fun K "parts" "parts" s_parts A.f_parts A.d_parts
  b_parts : Binds K A.d_parts ["lane", "span"] []
  g_parts : mg "parts" = some (.ref A.f_parts)
  F_row_total : Fun K "row_total" "row_total" s_row_total A.f_row_total A.d_row_total
  b_row_total : Binds K A.d_row_total ["i", "n", "x", "w"] []
  g_row_total : mg "row_total" = some (.ref A.f_row_total)
  F_lane_products : Fun K "lane_products" "lane_products" s_lane_products A.f_lane_products A.d_lane_products
  b_lane_products : Binds K A.d_lane_products ["kind", "a", "b"] []
  g_lane_products : mg "lane_products" = some (.ref A.f_lane_products)
  F_lane_sum : Fun K "lane_sum" "lane_sum" s_lane_sum A.f_lane_sum A.d_lane_sum
  b_lane_sum : Binds K A.d_lane_sum ["kind", "lane", "a", "b"] []
  g_lane_sum : mg "lane_sum" = some (.ref A.f_lane_sum)
  F_sum_of : Fun K "sum_of" "sum_of" s_sum_of A.f_sum_of A.d_sum_of
  b_sum_of : Binds K A.d_sum_of ["k", "kind", "sums", "a", "b"] []
  g_sum_of : mg "sum_of" = some (.ref A.f_sum_of)
  c_LANES : ∃ t, mg "LANES" = some (.int (16) t)
  c_SPAN_8 : ∃ t, mg "SPAN_8" = some (.int (256) t)
  c_SPAN_16 : ∃ t, mg "SPAN_16" = some (.int (65536) t)
  c_SPAN_32 : ∃ t, mg "SPAN_32" = some (.int (4294967296) t)
  z_len : mg "len" = none
  z_max : mg "max" = none
  z_min : mg "min" = none
  z_range : mg "range" = none
section
variable {P : Program} {w : World} {K : PySem.W.Frag} {mg : Str → Option Value} {base : Heap} {A : Ad}
/-! ### helpers -/
theorem pe_cint {X : Cx} {x : Str} {i : Int} {t : _} {pos : Pos} (hg : Gl X x) (hm : X.mg x = some (.int i t)) (hd : (x == ("__debug__" : Str)) = false := by decide) : PE X (.Name x pos) (tC (.int i)) := pe_glob hg hm ⟨_, rfl⟩ hd
theorem same_upd {H : Hp} {p : Addr} {o : HO} (h : H p = none) : Same H (upd H p o) := fun b x e => by
  rw [upd_ne (ne_of_none e h)]
  exact e
/-- a store to an address that was free at the start -/
theorem same_store {H H1 : Hp} {p : Addr} {o : HO} (h : H p = none) (s : Same H H1) : Same H (upd H1 p o) := fun b x e => by
  rw [upd_ne (ne_of_none e h)]
  exact s b x e
theorem at_map {l : List Int} {j : Nat} (h : j < l.length) : (l.map V.int)[j]? = some (.int (gi l j)) := by
  rw [List.getElem?_map, gi_get h]
  rfl
theorem map_at {l : List Int} {j : Nat} {y : V} (h : (l.map V.int)[j]? = some y) : ∃ z, l[j]? = some z ∧ y = .int z := by
  rw [List.getElem?_map] at h
  cases e : l[j]? with
  | none =>
    rw [e] at h
    cases h
  | some z =>
    rw [e] at h
    exact ⟨z, rfl, (Option.some.inj h).symm⟩
/-! ### with_sign -/
def spWs : Sp := fun vs H Q _ => ∃ b n : Int, vs = [.int b, .int n] ∧ Q (.int (ws b n)) H
theorem sc_with_sign : FnScope ["bits", "span"] ["bits", "span"] (defScope s_with_sign) := ⟨rfl, rfl, rfl, by decide +kernel, rfl, by decide +kernel, by decide +kernel⟩
theorem ok_with_sign (T : Txt K mg A) : FnOk P w K mg base CX0 1 A.f_with_sign A.d_with_sign ["bits", "span"] spWs := by
  refine T.F_with_sign.ok sc_with_sign (fun vs H Q E h => ?_) (fun cdv A' outer s H vs Q E hr h => ?_)
  · obtain ⟨r, n, rfl, _⟩ := h
    rfl
  · obtain ⟨b, n, rfl, q⟩ := h
    refine ⟨_, pss_cons (ps_if (pt_cmpR op_ge (pe_op op_mul pe_int (pv 0)) (pv 1) (nomark _)) (pss_one (ps_ret (pe_op op_sub (pv 0) (pv 1)))) pss_nil) (pss_one (ps_ret (pv 0))), ?_⟩
    refine ⟨_, rfl, _, _, rfl, rfl, .inl ⟨by decide, by decide⟩, _, rfl, _, _, rfl, rfl, _, rfl, ite2 (fun e => ?_) (fun e => ?_)⟩
    · refine ⟨_, rfl, _, rfl, _, _, rfl, rfl, ?_⟩
      unfold ws at q
      rw [if_pos (of_decide_eq_true e)] at q
      exact q
    · refine ⟨_, rfl, ?_⟩
      unfold ws at q
      rw [if_neg (fun z => e (decide_eq_true z))] at q
      exact q
/-! ### all_with_sign -/
def spAll (K : PySem.W.Frag) : Sp := fun vs H Q _ => ∃ (a : Addr) (ns : List Int) (n : Int), vs = [.ref a, .int n] ∧ SqL K H a (ns.map V.int) ∧ ns.length ≤ 4000 ∧
  ∀ H' p, Same H H' → H p = none → H' p = some (.lst ((ns.map fun b => ws b n).map V.int)) → Q (.ref p) H'
theorem sc_all_with_sign : FnScope ["numbers", "span", "bits"] ["numbers", "span"] (defScope s_all_with_sign) := ⟨rfl, rfl, rfl, by decide +kernel, rfl, by decide +kernel, by decide +kernel⟩
theorem ok_all_with_sign (T : Txt K mg A) : FnOk P w K mg base CX0 2 A.f_all_with_sign A.d_all_with_sign ["numbers", "span"] (spAll K) := by
  have G1 : FnOk P w K mg base CX0 1 A.f_with_sign A.d_with_sign ["bits", "span"] spWs := ok_with_sign T
  refine T.F_all_with_sign.ok sc_all_with_sign (fun vs H Q E h => ?_) (fun cdv A' outer s H vs Q E hr h => ?_)
  · obtain ⟨a, ns, n, rfl, _⟩ := h
    rfl
  · obtain ⟨a, ns, n, rfl, hS, hl, q⟩ := h
    refine ⟨_, pss_one (ps_ret (pe_lc (own := [("bits", 2)]) (g := gName 2) (tt := tYes) rfl sc_all_with_sign.nd (pi_list (pv 0))
      (blkOk_by (N := ["numbers", "span", "bits"]) (sc := defScope s_all_with_sign) (by decide +kernel))
      (fun _ _ _ _ _ => pg_name (i := 2) sc_all_with_sign.nd rfl (Or.inl rfl)) (fun _ _ _ _ _ => pts_nil)
      (fun _ _ _ _ _ => pe_call G1 hr (by rfl) T.g_with_sign T.F_with_sign.kp T.b_with_sign .nil pass0 (pa_cons (pv 2) (pa_cons (pv 1) pa_nil))))), ?_⟩
    refine ⟨.ref a, rfl, a, rfl, ⟨_, hS⟩, fun D hD => ?_⟩
    refine lc_list (K := K) (a := a) (xs := ns.map V.int) (fun i H' => Same H H' ∧ H' D = some (.lst (((ns.take i).map fun b => ws b n).map V.int)))
      ⟨same_upd hD, upd_same⟩ (fun i H' _ z => z.1.seq hS) ?_ ?_
    · rintro i y H' hi ⟨s5, e5⟩
      obtain ⟨z, hz, rfl⟩ := map_at hi
      refine ⟨rfl, ?_⟩
      dsimp only [tYes]
      refine iteT ?_
      refine ⟨_, rfl, _, rfl, _, _, rfl, ?_⟩
      refine ⟨_, e5, ?_, same_store hD s5, ?_⟩
      · rw [List.length_map, List.length_map, List.length_take]
        exact Nat.lt_of_le_of_lt (Nat.le_trans (Nat.min_le_right _ _) hl) (by decide)
      · rw [upd_same, List.take_add_one, hz, List.map_append, List.map_append]
        rfl
    · rintro H' ⟨s5, e5⟩
      rw [List.length_map, List.take_length] at e5
      exact q H' D s5 hD e5
/-! ### hold_in_32_bits -/
def spHold : Sp := fun vs H Q _ => ∃ x : Int, vs = [.int x] ∧ Q (.int (hold x)) H
theorem hold_is (x : Int) : (if (if x < 2147483647 then x else 2147483647) > (-2147483648 : Int) then (if x < 2147483647 then x else 2147483647) else -2147483648) = hold x := by
  unfold hold
  by_cases h1 : x < 2147483647
  · rw [if_pos h1]
    by_cases h2 : x > -2147483648
    · rw [if_pos h2]
      omega
    · rw [if_neg h2]
      omega
  · rw [if_neg h1, if_pos (by decide)]
    omega
theorem sc_hold : FnScope ["number", "half"] ["number"] (defScope s_hold_in_32_bits) := ⟨rfl, rfl, rfl, by decide +kernel, rfl, by decide +kernel, by decide +kernel⟩
theorem ok_hold (T : Txt K mg A) : FnOk P w K mg base CX0 1 A.f_hold_in_32_bits A.d_hold_in_32_bits ["number"] spHold := by
  obtain ⟨t1, c1⟩ := T.c_SPAN_32
  refine T.F_hold_in_32_bits.ok sc_hold (fun vs H Q E h => ?_) (fun cdv A' outer s H vs Q E hr h => ?_)
  · obtain ⟨x, rfl, _⟩ := h
    rfl
  · obtain ⟨x, rfl, q⟩ := h
    refine ⟨_, pss_cons (ps_set (i := 1) sc_hold.nd rfl (.inl rfl) (pe_op op_fdiv (pe_cint rfl c1) pe_int))
      (pss_one (ps_ret (pe_callB (call_max2 rfl) (by rfl) T.z_max boot_max (pa_cons (pe_un un_neg (pv 1)) (pa_cons (pe_callB (call_min2 rfl) (by rfl) T.z_min boot_min (pa_cons (pe_op op_sub (pv 1) pe_int) (pa_cons (pv 0) pa_nil))) pa_nil))))), ?_⟩
    refine ⟨_, _, rfl, rfl, ⟨by decide, by decide⟩, ?_⟩
    refine ⟨_, rfl, _, rfl, _, rfl, _, _, rfl, rfl, _, rfl, _, _, rfl, _, _, rfl, ?_⟩
    rw [← hold_is] at q
    exact q
/-! ### row_total -/
def spRow (K : PySem.W.Frag) : Sp := fun vs H Q _ => ∃ (i n : Nat) (ax aw : Addr) (xs ys : List Int), vs = [.int i, .int n, .ref ax, .ref aw] ∧ SqL K H ax (xs.map V.int) ∧ SqL K H aw (ys.map V.int) ∧
  n ≤ 65536 ∧ xs.length = n ∧ n * i + n ≤ ys.length ∧ (∀ a ∈ xs, -65536 ≤ a ∧ a ≤ 65536) ∧ Q (.int (dot xs ys n i)) H
theorem sc_row_total : FnScope ["i", "n", "x", "w", "total", "j"] ["i", "n", "x", "w"] (defScope s_row_total) := ⟨rfl, rfl, rfl, by decide +kernel, rfl, by decide +kernel, by decide +kernel⟩
theorem ok_row_total (T : Txt K mg A) : FnOk P w K mg base CX0 1 A.f_row_total A.d_row_total ["i", "n", "x", "w"] (spRow K) := by
  refine T.F_row_total.ok sc_row_total (fun vs H Q E h => ?_) (fun cdv A' outer s H vs Q E hr h => ?_)
  · obtain ⟨i, n, ax, aw, xs, ys, rfl, _⟩ := h
    rfl
  · obtain ⟨i, n, ax, aw, xs, ys, rfl, hX, hY, hn, lx, ly, bx, q⟩ := h
    refine ⟨_, pss_cons (ps_set (i := 4) sc_row_total.nd rfl (.inl rfl) pe_int)
      (pss_cons (ps_for PassesOwn.never rfl (pi_range1 (by rfl) T.z_range (pa_cons (pv 1) pa_nil)) (pg_name (i := 5) sc_row_total.nd rfl (.inl rfl))
        (pss_one (ps_set (i := 4) sc_row_total.nd rfl (.inl rfl) (pe_op op_add (pv 4) (pe_op op_mul (pe_ix ix_list (pv 2) (pv 5) (fun _ _ => rfl)) (pe_ix ix_list (pv 3) (pe_op op_add (pe_op op_mul (pv 1) (pv 0)) (pv 5)) (fun _ _ => rfl)))))))
      (pss_one (ps_ret (pv 4)))), ?_⟩
    refine ⟨_, rfl, (n : Int), rfl, by omega, by omega, ?_⟩
    refine for_range (lo := 0) (n := (n : Int).toNat) (fun k σ H' => ∃ v, σ = [some (.int i), some (.int n), some (.ref ax), some (.ref aw), some (.int (upto (fun j => gi xs j * gi ys (n * i + j)) k)), v] ∧ H' = H)
      ⟨none, rfl, rfl⟩ ?_ ?_
    · rintro k σ H' hk ⟨v, rfl, rfl⟩
      have hk : k < n := by rw [Int.toNat_natCast] at hk; exact hk
      have k1 : k < xs.length := by omega
      have k2 : n * i + k < ys.length := by omega
      have b1 := bx _ (gi_mem k1)
      refine ⟨_, rfl, _, rfl, _, rfl, ax, _, _, _, rfl, rfl, hX, (by rw [Int.zero_add]; exact atI_nat (at_map k1)), ?_⟩
      refine ⟨_, rfl, _, rfl, _, rfl, _, _, rfl, rfl, .inl ⟨by omega, by omega⟩, _, rfl, _, _, rfl, rfl, aw, _, _, .int (gi ys (n * i + k)), rfl, rfl, hY, ?_, ?_⟩
      · rw [Int.zero_add, show (n : Int) * (i : Int) + (k : Int) = ((n * i + k : Nat) : Int) by rw [Int.natCast_add, Int.natCast_mul]]
        exact atI_nat (at_map k2)
      · refine ⟨_, _, rfl, rfl, .inl ⟨by omega, by omega⟩, _, _, rfl, rfl, _, rfl, rfl⟩
    · rintro σ H' ⟨v, rfl, rfl⟩
      rw [Int.toNat_natCast]
      exact ⟨_, rfl, q⟩

/-! ### lists of any place: one behind the other -/
def rCatL (K : PySem.W.Frag) : R2 := fun x y H Q => ∃ l b xs zs, x = .ref l ∧ y = .ref b ∧ SqL K H l xs ∧ SqL K H b zs ∧ xs.length + zs.length ≤ sizeLine ∧ ∀ p, H p = none → Q (.ref p) (upd H p (.lst (xs ++ zs)))
theorem op_catL {X : Cx} : OpR X (binaryOp .Add) (rCatL X.K) := by
  intro pins s σ H x y v u Q I rx ry h
  obtain ⟨l, b, xs, zs, rfl, rfl, hH, hB, hz, q⟩ := h
  cases rx
  cases ry
  obtain ⟨its, r, ⟨⟨cls, dd, data, sl⟩, n, e, hc, hd, hs⟩, _⟩ := I.list hH
  obtain ⟨its2, r2, ⟨⟨cls2, dd2, data2, sl2⟩, n2, e2, hc2, hd2, hs2⟩, _⟩ := I.list hB
  simp only at hc hd hs hc2 hd2 hs2
  subst hc hd hs hc2 hd2 hs2
  have hl := r.length
  have hl2 := r2.length
  have ea : its.toArray ++ its2.toArray = (its ++ its2).toArray := by simp
  refine concat_meets ⟨_, e, rfl⟩ ⟨_, e2, rfl⟩ noFill_list_add seq_list_add PySem.F.slot_list_add PySem.F.entry_list_add (PySem.F.args_list_add_2 _ _) (list_addW l b its.toArray its2.toArray n n2 none none sl sl2 (by rw [List.size_toArray, List.size_toArray]; omega)) ⟨e, e2, ?_⟩
  rw [ea]
  exact ⟨.ref _, _, I.lnew (t' := s.toks) (r.append r2) (by rw [List.length_append]; omega), rfl, q _ I.fresh⟩

/-! ### lanes -/
theorem gi_out {l : List Int} {j : Nat} (h : l.length ≤ j) : gi l j = 0 := by
  unfold gi
  rw [List.getD_eq_getElem?_getD, List.getElem?_eq_none h]
  rfl
theorem range_at {f : Nat → Int} {n j : Nat} (h : j < n) : ((List.range n).map f)[j]? = some (f j) := by
  rw [List.getElem?_map, List.getElem?_range h]
  rfl
theorem gi_range {f : Nat → Int} {n j : Nat} (h : j < n) : gi ((List.range n).map f) j = f j := by
  unfold gi
  rw [List.getD_eq_getElem?_getD, range_at h]
  rfl
theorem ixN_nat {n j : Nat} (h : j < n) : ixN n (j : Int) = some j := by
  unfold ixN
  rw [if_pos (by omega), if_pos (by omega), Int.toNat_natCast]
theorem dec_int (a b : Int) : decide (V.int a = V.int b) = decide (a = b) := by
  rw [decide_eq_decide]
  exact ⟨V.int.inj, congrArg V.int⟩
/-! ### sixteen -/
theorem sixteen_is {l : List Int} (h : l.length ≤ 16) : l.map V.int ++ (List.replicate ((16 : Int) - ((l.length : Nat) : Int)).toNat [V.int 0]).flatten = ((List.range 16).map (gi l)).map V.int := by
  rw [List.flatten_replicate_singleton, ← List.map_replicate, ← List.map_append]
  refine congrArg (List.map V.int) (List.ext_getElem? fun i => ?_)
  by_cases c : i < l.length
  · rw [List.getElem?_append_left c, List.getElem?_map, List.getElem?_range (by omega), gi_get c]
    rfl
  · rw [List.getElem?_append_right (by omega)]
    by_cases d : i < 16
    · rw [List.getElem?_replicate, if_pos (by omega), List.getElem?_map, List.getElem?_range d]
      show _ = some (gi l i)
      rw [gi_out (by omega)]
    · rw [List.getElem?_replicate, if_neg (by omega), List.getElem?_eq_none (by rw [List.length_map, List.length_range]; omega)]
def spSix (K : PySem.W.Frag) : Sp := fun vs H Q _ => ∃ (a : Addr) (l : List Int), vs = [.ref a] ∧ SqL K H a (l.map V.int) ∧ l.length ≤ 16 ∧
  ∀ H' p, Same H H' → H p = none → H' p = some (.lst (((List.range 16).map (gi l)).map V.int)) → Q (.ref p) H'
theorem sc_sixteen : FnScope ["lanes"] ["lanes"] (defScope s_sixteen) := ⟨rfl, rfl, rfl, by decide +kernel, rfl, by decide +kernel, by decide +kernel⟩
theorem ok_sixteen (T : Txt K mg A) : FnOk P w K mg base CX0 1 A.f_sixteen A.d_sixteen ["lanes"] (spSix K) := by
  obtain ⟨t1, c1⟩ := T.c_LANES
  refine T.F_sixteen.ok sc_sixteen (fun vs H Q E h => ?_) (fun cdv A' outer s H vs Q E hr h => ?_)
  · obtain ⟨a, l, rfl, _⟩ := h
    rfl
  · obtain ⟨a, l, rfl, hL, hl, q⟩ := h
    refine ⟨_, pss_one (ps_ret (pe_op op_catL (pv 0) (pe_op op_rep (pe_lst (pa_cons pe_int pa_nil)) (pe_op op_sub (pe_cint rfl c1) (pe_callB call_len_seq (by rfl) T.z_len PySem.boot_len (pa_cons (pv 0) pa_nil)))))), ?_⟩
    refine ⟨_, rfl, (by show 1 ≤ sizeLine; decide), fun p1 n1 => ?_⟩
    have s1 : Same H (upd H p1 (.lst [.int 0])) := same_upd n1
    refine ⟨_, rfl, a, _, rfl, .inl (s1.seq hL), _, _, rfl, rfl, ?_⟩
    rw [List.length_map]
    refine ⟨p1, _, [.int 0], rfl, rfl, upd_same, (by omega), (by omega), ?_, fun p2 n2 => ?_⟩
    · exact Nat.le_trans (show [V.int 0].length * ((16 : Int) - ((l.length : Nat) : Int)).toNat ≤ 16 by show 1 * _ ≤ 16; omega) (by decide)
    have s2 := same_upd (o := .lst (List.replicate ((16 : Int) - ((l.length : Nat) : Int)).toNat [V.int 0]).flatten) n2
    refine ⟨a, p2, _, _, rfl, rfl, s2.seq (s1.seq hL), SqL.of upd_same, ?_, fun p3 n3 => ?_⟩
    · rw [List.flatten_replicate_singleton, List.length_map, List.length_replicate]
      exact Nat.le_trans (show _ ≤ 16 by omega) (by decide)
    refine q _ p3 (fun b x e => ?_) (s1.free (s2.free n3)) ?_
    · exact same_upd n3 b x (s2 b x (s1 b x e))
    · rw [upd_same, sixteen_is hl]
/-! ### parts -/
def Sort4 (bits cnt : Nat) : Prop := (bits = 8 ∧ cnt = 4) ∨ (bits = 16 ∧ cnt = 2)
theorem place_in {bits cnt k : Nat} (h : Sort4 bits cnt) (hk : k < cnt) : (0 : Int) < 2 ^ (bits * k) ∧ (2 : Int) ^ (bits * k) ≤ 16777216 := by
  rcases h with ⟨rfl, rfl⟩ | ⟨rfl, rfl⟩
  · have : k = 0 ∨ k = 1 ∨ k = 2 ∨ k = 3 := by omega
    rcases this with rfl | rfl | rfl | rfl <;> exact ⟨by decide, by decide⟩
  · have : k = 0 ∨ k = 1 := by omega
    rcases this with rfl | rfl <;> exact ⟨by decide, by decide⟩
theorem place_end {bits cnt : Nat} (h : Sort4 bits cnt) : (2 : Int) ^ (bits * cnt) = 4294967296 := by
  rcases h with ⟨rfl, rfl⟩ | ⟨rfl, rfl⟩ <;> decide
theorem span_in {bits cnt : Nat} (h : Sort4 bits cnt) : (0 : Int) < 2 ^ bits ∧ (2 : Int) ^ bits ≤ 65536 := by
  rcases h with ⟨rfl, rfl⟩ | ⟨rfl, rfl⟩ <;> exact ⟨by decide, by decide⟩
theorem cnt_in {bits cnt : Nat} (h : Sort4 bits cnt) : cnt ≤ 4 := by
  rcases h with ⟨rfl, rfl⟩ | ⟨rfl, rfl⟩ <;> decide
def spParts : Sp := fun vs H Q _ => ∃ (lane sp : Int) (bits cnt : Nat), vs = [.int lane, .int sp] ∧ sp = 2 ^ bits ∧ Sort4 bits cnt ∧
  ∀ H' p, Same H H' → H p = none → H' p = some (.lst (((List.range cnt).map (partI bits lane)).map V.int)) → Q (.ref p) H'
theorem sc_parts : FnScope ["lane", "span", "numbers", "place"] ["lane", "span"] (defScope s_parts) := ⟨rfl, rfl, rfl, by decide +kernel, rfl, by decide +kernel, by decide +kernel⟩
theorem ok_parts (T : Txt K mg A) : FnOk P w K mg base CX0 1 A.f_parts A.d_parts ["lane", "span"] spParts := by
  obtain ⟨t1, c1⟩ := T.c_SPAN_32
  refine T.F_parts.ok sc_parts (fun vs H Q E h => ?_) (fun cdv A' outer s H vs Q E hr h => ?_)
  · obtain ⟨lane, sp, bits, cnt, rfl, _⟩ := h
    rfl
  · obtain ⟨lane, sp, bits, cnt, rfl, hsp, hS, q⟩ := h
    refine ⟨_, pss_cons (ps_set (i := 2) sc_parts.nd rfl (.inl rfl) (pe_lst pa_nil))
      (pss_cons (ps_set (i := 3) sc_parts.nd rfl (.inl rfl) pe_int)
      (pss_cons (ps_while PassesOwn.never (pt_cmpR op_lt (pv 3) (pe_cint rfl c1) (nomark _))
        (pss_cons (ps_expr (pe_bm PySem.F.plainAttrs_list PySem.F.slot_list_append PySem.F.type_list_append mt_append (pv 2) (pa_cons (pe_op op_mod (pe_op op_fdiv (pv 0) (pv 3)) (pv 1)) pa_nil)))
        (pss_one (ps_set (i := 3) sc_parts.nd rfl (.inl rfl) (pe_op op_mul (pv 3) (pv 1))))))
      (pss_one (ps_ret (pv 2))))), ?_⟩
    refine ⟨(by show 0 ≤ sizeLine; decide), fun p1 n1 => ?_⟩
    have s1 : Same H (upd H p1 (.lst [])) := same_upd n1
    refine ⟨fun m σ H' => ∃ (k : Nat) (pl : Int), k + m = cnt ∧ pl = 2 ^ (bits * k) ∧ σ = [some (.int lane), some (.int sp), some (.ref p1), some (.int pl)] ∧ Same H H' ∧ H' p1 = some (.lst (((List.range k).map (partI bits lane)).map V.int)),
      ⟨cnt, 0, 1, Nat.zero_add _, rfl, rfl, s1, upd_same⟩, ?_⟩
    rintro m σ H' ⟨k, pl, hk, hpl, rfl, s5, e5⟩
    refine ⟨_, rfl, _, _, rfl, rfl, _, rfl, ite2 (fun e => ?_) (fun e => ?_)⟩
    · have e := of_decide_eq_true e
      have kc : k < cnt := by
        rcases Nat.lt_or_ge k cnt with z | z
        · exact z
        · have : k = cnt := by omega
          rw [hpl, this, place_end hS] at e
          omega
      have hp := place_in hS kc
      rw [← hpl] at hp
      have hs := span_in hS
      rw [← hsp] at hs
      have c4 := cnt_in hS
      refine ⟨fun σ H' => ∃ m', m' < m ∧ ∃ (k : Nat) (pl : Int), k + m' = cnt ∧ pl = 2 ^ (bits * k) ∧ σ = [some (.int lane), some (.int sp), some (.ref p1), some (.int pl)] ∧ Same H H' ∧ H' p1 = some (.lst (((List.range k).map (partI bits lane)).map V.int)),
        fun _ _ z => z, ?_⟩
      refine ⟨_, rfl, .inl ⟨rfl, _, SqL.of e5⟩, _, rfl, _, rfl, _, _, rfl, rfl, ⟨hp.1, by omega⟩, _, rfl, _, _, rfl, rfl, hs.1, p1, _, _, rfl, rfl, e5, ?_, ?_⟩
      · rw [List.length_map, List.length_map, List.length_range]
        exact Nat.lt_of_le_of_lt (show k ≤ 4 by omega) (by decide)
      · refine ⟨_, rfl, _, rfl, _, _, rfl, rfl, .inl ⟨by omega, by omega⟩, m - 1, by omega, k + 1, _, by omega, ?_, rfl, same_store n1 s5, ?_⟩
        · rw [Nat.mul_succ, Int.pow_add, hpl, hsp]
        · rw [upd_same, List.range_succ, List.map_append, List.map_append]
          show _ = some (HO.lst (_ ++ [V.int (partI bits lane k)]))
          unfold partI
          rw [← hpl, ← hsp]
    · have kc : k = cnt := by
        rcases Nat.lt_or_ge k cnt with z | z
        · exact absurd (decide_eq_true (show pl < 4294967296 by have := (place_in hS z).2; omega)) e
        · omega
      subst kc
      exact ⟨_, rfl, q H' p1 s5 n1 e5⟩
/-! ### is_in -/
def spIn : Sp := fun vs H Q _ => ∃ (k : Int) (j : Nat), vs = [.int k, .int (j : Int)] ∧ Q (.bl (decide (inKI k j))) H
theorem sc_is_in : FnScope ["k", "j"] ["k", "j"] (defScope s_is_in) := ⟨rfl, rfl, rfl, by decide +kernel, rfl, by decide +kernel, by decide +kernel⟩
theorem ok_is_in (T : Txt K mg A) : FnOk P w K mg base CX0 1 A.f_is_in A.d_is_in ["k", "j"] spIn := by
  refine T.F_is_in.ok sc_is_in (fun vs H Q E h => ?_) (fun cdv A' outer s H vs Q E hr h => ?_)
  · obtain ⟨k, j, rfl, _⟩ := h
    rfl
  · obtain ⟨k, j, rfl, q⟩ := h
    refine ⟨_, pss_one (ps_ret (pe_cmpR op_eq (pe_op op_mod (pe_op op_shr (pv 0) (pv 1)) pe_int) pe_int (nomark _))), ?_⟩
    refine ⟨_, rfl, _, rfl, _, _, rfl, rfl, (by omega), _, _, rfl, rfl, (by show (0 : Int) < 2; decide), rfl, ?_⟩
    show Q (.bl (decide (V.int (k / 2 ^ j % 2) = V.int 1))) H
    rw [dec_int]
    exact q

/-! ### lane_products -/
def spProd : Sp := fun vs H Q _ => ∃ kind a b : Int, vs = [.int kind, .int a, .int b] ∧ ∀ H', Same H H' → Q (.int (if kind < 2 then fourI a b else twoI a b)) H'
theorem four_dot (a b : Int) : dot ((List.range 4).map (partI 8 a)) (((List.range 4).map (partI 8 b)).map fun x => ws x 256) 4 0 = fourI a b := by
  show (0 : Int) + _ + _ + _ + _ = _
  rw [Int.zero_add]
  rfl
theorem two_dot (a b : Int) : dot (((List.range 2).map (partI 16 a)).map fun x => ws x 65536) (((List.range 2).map (partI 16 b)).map fun x => ws x 65536) 2 0 = twoI a b := by
  show (0 : Int) + _ + _ = _
  rw [Int.zero_add]
  rfl
theorem ws16_within {b : Int} (h : 0 ≤ b ∧ b < 65536) : -65536 ≤ ws b 65536 ∧ ws b 65536 ≤ 65536 := by
  unfold ws
  by_cases c : (65536 : Int) ≤ 2 * b
  · rw [if_pos c]
    omega
  · rw [if_neg c]
    omega
theorem sc_lane_products : FnScope ["kind", "a", "b", "factors", "weights"] ["kind", "a", "b"] (defScope s_lane_products) := ⟨rfl, rfl, rfl, by decide +kernel, rfl, by decide +kernel, by decide +kernel⟩
theorem ok_lane_products (T : Txt K mg A) : FnOk P w K mg base CX0 3 A.f_lane_products A.d_lane_products ["kind", "a", "b"] spProd := by
  have G1 : FnOk P w K mg base CX0 1 A.f_parts A.d_parts ["lane", "span"] spParts := ok_parts T
  have G2 : FnOk P w K mg base CX0 2 A.f_all_with_sign A.d_all_with_sign ["numbers", "span"] (spAll K) := ok_all_with_sign T
  have G3 : FnOk P w K mg base CX0 1 A.f_row_total A.d_row_total ["i", "n", "x", "w"] (spRow K) := ok_row_total T
  obtain ⟨t1, c1⟩ := T.c_SPAN_8
  obtain ⟨t2, c2⟩ := T.c_SPAN_16
  refine T.F_lane_products.ok sc_lane_products (fun vs H Q E h => ?_) (fun cdv A' outer s H vs Q E hr h => ?_)
  · obtain ⟨kind, a, b, rfl, _⟩ := h
    rfl
  · obtain ⟨kind, a, b, rfl, q⟩ := h
    have hr1 : Room 1 _ := hr.mono (by decide)
    refine ⟨_, pss_cons (ps_if (pt_cmpR op_lt (pv 0) pe_int (nomark _))
        (pss_cons (ps_set (i := 3) sc_lane_products.nd rfl (.inl rfl) (pe_call G1 hr1 (by rfl) T.g_parts T.F_parts.kp T.b_parts .nil pass0 (pa_cons (pv 1) (pa_cons (pe_cint rfl c1) pa_nil))))
        (pss_one (ps_set (i := 4) sc_lane_products.nd rfl (.inl rfl) (pe_call G2 hr (by rfl) T.g_all_with_sign T.F_all_with_sign.kp T.b_all_with_sign .nil pass0 (pa_cons (pe_call G1 hr1 (by rfl) T.g_parts T.F_parts.kp T.b_parts .nil pass0 (pa_cons (pv 2) (pa_cons (pe_cint rfl c1) pa_nil))) (pa_cons (pe_cint rfl c1) pa_nil))))))
        (pss_cons (ps_set (i := 3) sc_lane_products.nd rfl (.inl rfl) (pe_call G2 hr (by rfl) T.g_all_with_sign T.F_all_with_sign.kp T.b_all_with_sign .nil pass0 (pa_cons (pe_call G1 hr1 (by rfl) T.g_parts T.F_parts.kp T.b_parts .nil pass0 (pa_cons (pv 1) (pa_cons (pe_cint rfl c2) pa_nil))) (pa_cons (pe_cint rfl c2) pa_nil))))
        (pss_one (ps_set (i := 4) sc_lane_products.nd rfl (.inl rfl) (pe_call G2 hr (by rfl) T.g_all_with_sign T.F_all_with_sign.kp T.b_all_with_sign .nil pass0 (pa_cons (pe_call G1 hr1 (by rfl) T.g_parts T.F_parts.kp T.b_parts .nil pass0 (pa_cons (pv 2) (pa_cons (pe_cint rfl c2) pa_nil))) (pa_cons (pe_cint rfl c2) pa_nil)))))))
      (pss_one (ps_ret (pe_call G3 hr1 (by rfl) T.g_row_total T.F_row_total.kp T.b_row_total .nil pass0 (pa_cons pe_int (pa_cons (pe_callB call_len_seq (by rfl) T.z_len PySem.boot_len (pa_cons (pv 3) pa_nil)) (pa_cons (pv 3) (pa_cons (pv 4) pa_nil))))))), ?_⟩
    refine ⟨_, rfl, _, _, rfl, rfl, _, rfl, ite2 (fun e => ?_) (fun e => ?_)⟩
    · have e := of_decide_eq_true e
      rw [if_pos e] at q
      refine ⟨_, rfl, a, 256, 8, 4, rfl, by decide, .inl ⟨rfl, rfl⟩, fun H1 p1 s1 n1 e1 => ?_⟩
      refine ⟨_, rfl, b, 256, 8, 4, rfl, by decide, .inl ⟨rfl, rfl⟩, fun H2 p2 s2 n2 e2 => ?_⟩
      refine ⟨p2, (List.range 4).map (partI 8 b), 256, rfl, SqL.of e2, (by rw [List.length_map, List.length_range]; decide), fun H3 p3 s3 n3 e3 => ?_⟩
      refine ⟨_, rfl, p1, _, rfl, .inl (SqL.of (s3 _ _ (s2 _ _ e1))), _, rfl, _, rfl, 0, 4, p1, p3, (List.range 4).map (partI 8 a), ((List.range 4).map (partI 8 b)).map fun x => ws x 256, rfl, SqL.of (s3 _ _ (s2 _ _ e1)), SqL.of e3, by decide, rfl, (by rw [List.length_map, List.length_map, List.length_range]; decide), (fun x hx => ?_), ?_⟩
      · obtain ⟨i, _, rfl⟩ := List.mem_map.mp hx
        have := partI_within 8 i a
        omega
      · rw [four_dot]
        exact q H3 fun b x z => s3 _ _ (s2 _ _ (s1 _ _ z))
    · have e : ¬ kind < 2 := fun z => e (decide_eq_true z)
      rw [if_neg e] at q
      refine ⟨_, rfl, a, 65536, 16, 2, rfl, by decide, .inr ⟨rfl, rfl⟩, fun H0 p0 s0 n0 e0 => ?_⟩
      refine ⟨p0, (List.range 2).map (partI 16 a), 65536, rfl, SqL.of e0, (by rw [List.length_map, List.length_range]; decide), fun H1 p1 s1 n1 e1 => ?_⟩
      refine ⟨_, rfl, b, 65536, 16, 2, rfl, by decide, .inr ⟨rfl, rfl⟩, fun H2 p2 s2 n2 e2 => ?_⟩
      refine ⟨p2, (List.range 2).map (partI 16 b), 65536, rfl, SqL.of e2, (by rw [List.length_map, List.length_range]; decide), fun H3 p3 s3 n3 e3 => ?_⟩
      refine ⟨_, rfl, p1, _, rfl, .inl (SqL.of (s3 _ _ (s2 _ _ e1))), _, rfl, _, rfl, 0, 2, p1, p3, ((List.range 2).map (partI 16 a)).map fun x => ws x 65536, ((List.range 2).map (partI 16 b)).map fun x => ws x 65536, rfl, SqL.of (s3 _ _ (s2 _ _ e1)), SqL.of e3, by decide, rfl, (by rw [List.length_map, List.length_map, List.length_range]; decide), (fun x hx => ?_), ?_⟩
      · obtain ⟨y, hy, rfl⟩ := List.mem_map.mp hx
        obtain ⟨i, _, rfl⟩ := List.mem_map.mp hy
        exact ws16_within (partI_within 16 i a)
      · rw [two_dot]
        exact q H3 fun b x z => s3 _ _ (s2 _ _ (s1 _ _ (s0 _ _ z)))
/-! ### lane_sum -/
def spLane : Sp := fun vs H Q _ => ∃ kind l a b : Int, vs = [.int kind, .int l, .int a, .int b] ∧ 0 ≤ kind ∧ kind ≤ 3 ∧ ∀ H', Same H H' → Q (.int (laneI kind l a b)) H'
theorem sc_lane_sum : FnScope ["kind", "lane", "a", "b", "total"] ["kind", "lane", "a", "b"] (defScope s_lane_sum) := ⟨rfl, rfl, rfl, by decide +kernel, rfl, by decide +kernel, by decide +kernel⟩
theorem lane_odd {kind l a b : Int} (h0 : 0 ≤ kind) (h3 : kind ≤ 3) (h : kind % 2 = 1) : hold (ws l 4294967296 + (if kind < 2 then fourI a b else twoI a b)) % 4294967296 = laneI kind l a b := by
  have : kind = 1 ∨ kind = 3 := by omega
  rcases this with rfl | rfl <;> rfl
theorem lane_even {kind l a b : Int} (h0 : 0 ≤ kind) (h3 : kind ≤ 3) (h : ¬ kind % 2 = 1) : (ws l 4294967296 + (if kind < 2 then fourI a b else twoI a b)) % 4294967296 = laneI kind l a b := by
  have : kind = 0 ∨ kind = 2 := by omega
  rcases this with rfl | rfl <;> rfl
theorem ok_lane_sum (T : Txt K mg A) : FnOk P w K mg base CX0 4 A.f_lane_sum A.d_lane_sum ["kind", "lane", "a", "b"] spLane := by
  have G1 : FnOk P w K mg base CX0 1 A.f_with_sign A.d_with_sign ["bits", "span"] spWs := ok_with_sign T
  have G2 : FnOk P w K mg base CX0 3 A.f_lane_products A.d_lane_products ["kind", "a", "b"] spProd := ok_lane_products T
  have G3 : FnOk P w K mg base CX0 1 A.f_hold_in_32_bits A.d_hold_in_32_bits ["number"] spHold := ok_hold T
  obtain ⟨t1, c1⟩ := T.c_SPAN_32
  refine T.F_lane_sum.ok sc_lane_sum (fun vs H Q E h => ?_) (fun cdv A' outer s H vs Q E hr h => ?_)
  · obtain ⟨kind, l, a, b, rfl, _⟩ := h
    rfl
  · obtain ⟨kind, l, a, b, rfl, h0, h3, q⟩ := h
    have hr1 : Room 1 _ := hr.mono (by decide)
    refine ⟨_, pss_cons (ps_set (i := 4) sc_lane_sum.nd rfl (.inl rfl) (pe_op op_add (pe_call G1 hr1 (by rfl) T.g_with_sign T.F_with_sign.kp T.b_with_sign .nil pass0 (pa_cons (pv 1) (pa_cons (pe_cint rfl c1) pa_nil)))
          (pe_call G2 hr (by rfl) T.g_lane_products T.F_lane_products.kp T.b_lane_products .nil pass0 (pa_cons (pv 0) (pa_cons (pv 2) (pa_cons (pv 3) pa_nil))))))
      (pss_cons (ps_if (pt_cmpR op_eq (pe_op op_mod (pv 0) pe_int) pe_int (nomark _))
        (pss_one (ps_set (i := 4) sc_lane_sum.nd rfl (.inl rfl) (pe_call G3 hr1 (by rfl) T.g_hold_in_32_bits T.F_hold_in_32_bits.kp T.b_hold_in_32_bits .nil pass0 (pa_cons (pv 4) pa_nil)))) pss_nil)
      (pss_one (ps_ret (pe_op op_mod (pv 4) (pe_cint rfl c1))))), ?_⟩
    refine ⟨_, rfl, _, _, rfl, _, rfl, _, rfl, _, rfl, kind, a, b, rfl, fun H1 s1 => ?_⟩
    refine ⟨_, _, rfl, rfl, _, rfl, _, _, rfl, rfl, (by show (0 : Int) < 2; decide), rfl, _, rfl, ite2 (fun e => ?_) (fun e => ?_)⟩
    · have e : kind % 2 = 1 := V.int.inj (of_decide_eq_true e)
      refine ⟨_, rfl, _, rfl, _, rfl, _, _, rfl, rfl, (by show (0 : Int) < 4294967296; decide), ?_⟩
      show Q (.int (hold (ws l 4294967296 + (if kind < 2 then fourI a b else twoI a b)) % 4294967296)) H1
      rw [lane_odd h0 h3 e]
      exact q H1 s1
    · have e : ¬ kind % 2 = 1 := fun z => e (decide_eq_true (congrArg V.int z))
      refine ⟨_, rfl, _, _, rfl, rfl, (by show (0 : Int) < 4294967296; decide), ?_⟩
      show Q (.int ((ws l 4294967296 + (if kind < 2 then fourI a b else twoI a b)) % 4294967296)) H1
      rw [lane_even h0 h3 e]
      exact q H1 s1
/-! ### sum_of -/
def spSum (K : PySem.W.Frag) : Sp := fun vs H Q _ => ∃ (k kind : Int) (as aa ab : Addr) (s a b : List Int), vs = [.int k, .int kind, .ref as, .ref aa, .ref ab] ∧
  SqL K H as (s.map V.int) ∧ SqL K H aa (a.map V.int) ∧ SqL K H ab (b.map V.int) ∧ PySv05.sum_of_asked k kind s a b = true ∧
  ∀ (H' : Hp) (p : Addr), H' p = some (.lst ((PySv05.sum_of k kind s a b).map V.int)) → Q (.ref p) H'
def sumAt (k kind : Int) (s a b : List Int) (n : Nat) : List Int := (List.range 16).map fun j => if j < n ∧ inKI k j then laneI kind (gi s j) (gi a j) (gi b j) else gi s j
theorem sumAt_len {k kind : Int} {s a b : List Int} {n : Nat} : (sumAt k kind s a b n).length = 16 := by
  unfold sumAt
  rw [List.length_map, List.length_range]
theorem sumAt_at {k kind : Int} {s a b : List Int} {n : Nat} (h : n < 16) : gi (sumAt k kind s a b n) n = gi s n := by
  unfold sumAt
  rw [gi_range h, if_neg (fun z => Nat.lt_irrefl _ z.1)]
theorem sumAt_in {k kind : Int} {s a b : List Int} {n : Nat} (hi : inKI k n) : (sumAt k kind s a b n).set n (laneI kind (gi s n) (gi a n) (gi b n)) = sumAt k kind s a b (n + 1) := by
  refine List.ext_getElem? fun i => ?_
  by_cases hi16 : i < 16
  · by_cases e : n = i
    · subst e
      rw [List.getElem?_set_self (by rw [sumAt_len]; exact hi16)]
      unfold sumAt
      rw [range_at hi16, if_pos ⟨Nat.lt_succ_self _, hi⟩]
    · rw [List.getElem?_set_ne e]
      unfold sumAt
      rw [range_at hi16, range_at hi16]
      by_cases c : i < n ∧ inKI k i
      · rw [if_pos c, if_pos ⟨Nat.lt_succ_of_lt c.1, c.2⟩]
      · rw [if_neg c, if_neg (fun z => c ⟨by omega, z.2⟩)]
  · rw [List.getElem?_eq_none (by rw [List.length_set, sumAt_len]; omega), List.getElem?_eq_none (by rw [sumAt_len]; omega)]
theorem sumAt_out {k kind : Int} {s a b : List Int} {n : Nat} (hi : ¬ inKI k n) : sumAt k kind s a b n = sumAt k kind s a b (n + 1) := by
  unfold sumAt
  refine List.map_congr_left fun i _ => ?_
  by_cases c : i < n ∧ inKI k i
  · rw [if_pos c, if_pos ⟨Nat.lt_succ_of_lt c.1, c.2⟩]
  · rw [if_neg c, if_neg]
    intro z
    rcases Nat.lt_or_eq_of_le (Nat.le_of_lt_succ z.1) with y | y
    · exact c ⟨y, z.2⟩
    · exact hi (y ▸ z.2)
theorem sumAt_zero {k kind : Int} {s a b : List Int} : (List.range 16).map (gi s) = sumAt k kind s a b 0 := by
  unfold sumAt
  refine List.map_congr_left fun i _ => ?_
  rw [if_neg (fun z => Nat.not_lt_zero _ z.1)]
theorem sumAt_end {k kind : Int} {s a b : List Int} : sumAt k kind s a b 16 = (List.range 16).map fun j => if inKI k j then laneI kind (gi s j) (gi a j) (gi b j) else gi s j := by
  unfold sumAt
  refine List.map_congr_left fun i hi => ?_
  have hi := List.mem_range.mp hi
  by_cases c : inKI k i
  · rw [if_pos c, if_pos ⟨hi, c⟩]
  · rw [if_neg c, if_neg (fun z => c z.2)]
theorem sum_other {k kind : Int} {s a b : List Int} (h : kind < 0 ∨ 3 < kind) : ((List.range 16).map fun j => if inKI k j then laneI kind (gi s j) (gi a j) (gi b j) else gi s j) = (List.range 16).map (gi s) := by
  refine List.map_congr_left fun i _ => ?_
  by_cases c : inKI k i
  · rw [if_pos c]
    unfold laneI
    rw [if_neg (by omega), if_neg (by omega), if_neg (by omega), if_neg (by omega)]
  · rw [if_neg c]
theorem sc_sum_of : FnScope ["k", "kind", "sums", "a", "b", "answer", "factors", "weights", "j"] ["k", "kind", "sums", "a", "b"] (defScope s_sum_of) := ⟨rfl, rfl, rfl, by decide +kernel, rfl, by decide +kernel, by decide +kernel⟩
theorem ok_sum_of (T : Txt K mg A) : FnOk P w K mg base CX0 5 A.f_sum_of A.d_sum_of ["k", "kind", "sums", "a", "b"] (spSum K) := by
  have G1 : FnOk P w K mg base CX0 1 A.f_sixteen A.d_sixteen ["lanes"] (spSix K) := ok_sixteen T
  have G2 : FnOk P w K mg base CX0 4 A.f_lane_sum A.d_lane_sum ["kind", "lane", "a", "b"] spLane := ok_lane_sum T
  have G3 : FnOk P w K mg base CX0 1 A.f_is_in A.d_is_in ["k", "j"] spIn := ok_is_in T
  obtain ⟨t1, c1⟩ := T.c_LANES
  refine T.F_sum_of.ok sc_sum_of (fun vs H Q E h => ?_) (fun cdv A' outer s H vs Q E hr h => ?_)
  · obtain ⟨k, kind, as, aa, ab, s, a, b, rfl, _⟩ := h
    rfl
  · obtain ⟨k, kind, as, aa, ab, s, a, b, rfl, hs, ha, hb, hask, q⟩ := h
    have hr1 : Room 1 _ := hr.mono (by decide)
    refine ⟨_, pss_cons (ps_set (i := 5) sc_sum_of.nd rfl (.inl rfl) (pe_call G1 hr1 (by rfl) T.g_sixteen T.F_sixteen.kp T.b_sixteen .nil pass0 (pa_cons (pv 2) pa_nil)))
      (pss_cons (ps_if (PW.pt (pw_or (pt_cmpR op_lt (pv 1) pe_int (nomark _)) (pw_or1 (pt_cmpR op_gt (pv 1) pe_int (nomark _))))) (pss_one (ps_ret (pv 5))) pss_nil)
      (pss_cons (ps_set (i := 6) sc_sum_of.nd rfl (.inl rfl) (pe_call G1 hr1 (by rfl) T.g_sixteen T.F_sixteen.kp T.b_sixteen .nil pass0 (pa_cons (pv 3) pa_nil)))
      (pss_cons (ps_set (i := 7) sc_sum_of.nd rfl (.inl rfl) (pe_call G1 hr1 (by rfl) T.g_sixteen T.F_sixteen.kp T.b_sixteen .nil pass0 (pa_cons (pv 4) pa_nil)))
      (pss_cons (ps_for PassesOwn.never rfl (pi_range1 (by rfl) T.z_range (pa_cons (pe_cint rfl c1) pa_nil)) (pg_name (i := 8) sc_sum_of.nd rfl (.inl rfl))
        (pss_one (ps_if (pt_val (pe_call G3 hr1 (by rfl) T.g_is_in T.F_is_in.kp T.b_is_in .nil pass0 (pa_cons (pv 0) (pa_cons (pv 8) pa_nil))))
          (pss_one (ps_asg (pe_call G2 hr (by rfl) T.g_lane_sum T.F_lane_sum.kp T.b_lane_sum .nil pass0 (pa_cons (pv 1) (pa_cons (pe_ix ix_list (pv 5) (pv 8) (fun _ _ => rfl)) (pa_cons (pe_ix ix_list (pv 6) (pv 8) (fun _ _ => rfl)) (pa_cons (pe_ix ix_list (pv 7) (pv 8) (fun _ _ => rfl)) pa_nil)))))
            (pg_sub (pv 5) (pv 8) set_list))) pss_nil)))
      (pss_one (ps_ret (pv 5))))))), ?_⟩
    obtain ⟨hk, hki, ⟨bs, ls⟩, ⟨ba, la⟩, ⟨bb, lb⟩⟩ := sum_asked_iff hask
    have ans := sum_is (kind := kind) hk.1 bs ba bb
    refine ⟨_, rfl, as, s, rfl, hs, ls, fun H1 p1 s1 n1 e1 => ?_⟩
    have other : kind < 0 ∨ 3 < kind → Q (.ref p1) H1 := fun z => by
      refine q H1 p1 ?_
      rw [ans, sum_other z]
      exact e1
    refine ⟨_, rfl, _, _, rfl, rfl, _, rfl, ite2 (fun e => ?_) (fun d1 => ?_)⟩
    · have e := of_decide_eq_true e
      exact ite2 (fun _ => ⟨_, rfl, other (.inl e)⟩) (fun z => absurd rfl z)
    refine ⟨_, rfl, _, _, rfl, rfl, _, rfl, ite2 (fun e => ?_) (fun d2 => ?_)⟩
    · have e := of_decide_eq_true e
      exact ⟨_, rfl, other (.inr e)⟩
    have k0 : 0 ≤ kind := Int.not_lt.mp fun z => d1 (decide_eq_true z)
    have k3 : kind ≤ 3 := Int.not_lt.mp fun z => d2 (decide_eq_true z)
    refine ⟨_, rfl, aa, a, rfl, s1.seq ha, la, fun H2 p2 s2 n2 e2 => ?_⟩
    refine ⟨_, rfl, ab, b, rfl, s2.seq (s1.seq hb), lb, fun H3 p3 s3 n3 e3 => ?_⟩
    have n31 : p3 ≠ p1 := fun z => by
      rw [z, s2 _ _ e1] at n3
      cases n3
    have n21 : p2 ≠ p1 := fun z => by
      rw [z, e1] at n2
      cases n2
    rw [sumAt_zero (k := k) (kind := kind) (a := a) (b := b)] at e1
    refine ⟨(16 : Int), rfl, by decide, by decide, ?_⟩
    refine for_range (lo := 0) (n := (16 : Int).toNat) (fun j σ H' => ∃ v8, σ = [some (.int k), some (.int kind), some (.ref as), some (.ref aa), some (.ref ab), some (.ref p1), some (.ref p2), some (.ref p3), v8] ∧
        H' p1 = some (.lst ((sumAt k kind s a b j).map V.int)) ∧ H' p2 = some (.lst (((List.range 16).map (gi a)).map V.int)) ∧ H' p3 = some (.lst (((List.range 16).map (gi b)).map V.int)))
      ⟨none, rfl, s3 _ _ (s2 _ _ e1), s3 _ _ e2, e3⟩ ?_ ?_
    · rintro j σ H' hj ⟨v8, rfl, f1, f2, f3⟩
      have hj : j < 16 := hj
      rw [Int.zero_add]
      refine ⟨_, rfl, _, rfl, k, j, rfl, _, rfl, ite2 (fun e => ?_) (fun e => ?_)⟩
      · have e : inKI k j := of_decide_eq_true e
        refine ⟨_, rfl, _, rfl, _, rfl, p1, _, _, .int (gi s j), rfl, rfl, SqL.of f1, (by rw [← sumAt_at (k := k) (kind := kind) (s := s) (a := a) (b := b) hj]; exact atI_nat (at_map (by rw [sumAt_len]; exact hj))), ?_⟩
        refine ⟨_, rfl, _, rfl, p2, _, _, .int (gi a j), rfl, rfl, SqL.of f2, (by rw [← gi_range (f := gi a) hj]; exact atI_nat (at_map (by rw [List.length_map, List.length_range]; exact hj))), ?_⟩
        refine ⟨_, rfl, _, rfl, p3, _, _, .int (gi b j), rfl, rfl, SqL.of f3, (by rw [← gi_range (f := gi b) hj]; exact atI_nat (at_map (by rw [List.length_map, List.length_range]; exact hj))), ?_⟩
        refine ⟨kind, gi s j, gi a j, gi b j, rfl, k0, k3, fun H4 s4 => ?_⟩
        refine ⟨_, rfl, _, rfl, p1, _, _, j, rfl, rfl, s4 _ _ f1, (by rw [List.length_map, sumAt_len]; exact ixN_nat hj), ?_⟩
        refine ⟨_, rfl, ?_, ?_, ?_⟩
        · rw [upd_same, ← List.map_set, sumAt_in e]
        · rw [upd_ne n21]
          exact s4 _ _ f2
        · rw [upd_ne n31]
          exact s4 _ _ f3
      · have e : ¬ inKI k j := fun z => e (decide_eq_true z)
        refine ⟨_, rfl, ?_, f2, f3⟩
        rw [← sumAt_out e]
        exact f1
    · rintro σ H' ⟨v8, rfl, f1, f2, f3⟩
      refine ⟨_, rfl, q H' p1 ?_⟩
      rw [ans, ← sumAt_end]
      exact f1

end
/-! ### the end -/
theorem all_mk {P : Program} {w : World} {K : PySem.W.Frag} {h : Heap} {mg : Str → Option Value} {fa f0 f1 f2 f3 f4 f5 f6 f7 f8 f9 : Addr} (X : K.In h) (G : h.Ns mainGlobals mg) (hfa : mg "sum_of" = some (.ref fa))
    {od0 an0 od1 an1 od2 an2 od3 an3 od4 an4 od5 an5 od6 an6 od7 an7 od8 an8 od9 an9 : Option Addr} {sl0 sl1 sl2 sl3 sl4 sl5 sl6 sl7 sl8 sl9 : Array (Option Value)} {oc0 kV0 dc0 pm0 cd0 ct0 oc1 kV1 dc1 pm1 cd1 ct1 oc2 kV2 dc2 pm2 cd2 ct2 oc3 kV3 dc3 pm3 cd3 ct3 oc4 kV4 dc4 pm4 cd4 ct4 oc5 kV5 dc5 pm5 cd5 ct5 oc6 kV6 dc6 pm6 cd6 ct6 oc7 kV7 dc7 pm7 cd7 ct7 oc8 kV8 dc8 pm8 cd8 ct8 oc9 kV9 dc9 pm9 cd9 ct9 : Value}
    {t0 t1 t2 t3 : _}
    (a0 : PySem.W.nsIn K mainGlobals "with_sign" = some (some (.ref f0))) (l0 : K.lookup f0 = some ⟨oc0, od0, .func (PySem.W.fnOf "with_sign" "with_sign" (defArgs s_with_sign) (defBody s_with_sign) (defScope s_with_sign) .none kV0 dc0 pm0 an0 cd0 ct0), sl0⟩) (c0 : PySem.W.codeIn K cd0 "with_sign" = true) (k0 : PySem.W.keepIn K (.ref f0) = true)
    (a1 : PySem.W.nsIn K mainGlobals "all_with_sign" = some (some (.ref f1))) (l1 : K.lookup f1 = some ⟨oc1, od1, .func (PySem.W.fnOf "all_with_sign" "all_with_sign" (defArgs s_all_with_sign) (defBody s_all_with_sign) (defScope s_all_with_sign) .none kV1 dc1 pm1 an1 cd1 ct1), sl1⟩) (c1 : PySem.W.codeIn K cd1 "all_with_sign" = true) (k1 : PySem.W.keepIn K (.ref f1) = true)
    (a2 : PySem.W.nsIn K mainGlobals "hold_in_32_bits" = some (some (.ref f2))) (l2 : K.lookup f2 = some ⟨oc2, od2, .func (PySem.W.fnOf "hold_in_32_bits" "hold_in_32_bits" (defArgs s_hold_in_32_bits) (defBody s_hold_in_32_bits) (defScope s_hold_in_32_bits) .none kV2 dc2 pm2 an2 cd2 ct2), sl2⟩) (c2 : PySem.W.codeIn K cd2 "hold_in_32_bits" = true) (k2 : PySem.W.keepIn K (.ref f2) = true)
    (a3 : PySem.W.nsIn K mainGlobals "sixteen" = some (some (.ref f3))) (l3 : K.lookup f3 = some ⟨oc3, od3, .func (PySem.W.fnOf "sixteen" "sixteen" (defArgs s_sixteen) (defBody s_sixteen) (defScope s_sixteen) .none kV3 dc3 pm3 an3 cd3 ct3), sl3⟩) (c3 : PySem.W.codeIn K cd3 "sixteen" = true) (k3 : PySem.W.keepIn K (.ref f3) = true)
    (a4 : PySem.W.nsIn K mainGlobals "is_in" = some (some (.ref f4))) (l4 : K.lookup f4 = some ⟨oc4, od4, .func (PySem.W.fnOf "is_in" "is_in" (defArgs s_is_in) (defBody s_is_in) (defScope s_is_in) .none kV4 dc4 pm4 an4 cd4 ct4), sl4⟩) (c4 : PySem.W.codeIn K cd4 "is_in" = true) (k4 : PySem.W.keepIn K (.ref f4) = true)
    (a5 : PySem.W.nsIn K mainGlobals "parts" = some (some (.ref f5))) (l5 : K.lookup f5 = some ⟨oc5, od5, .func (PySem.W.fnOf "parts" "parts" (defArgs s_parts) (defBody s_parts) (defScope s_parts) .none kV5 dc5 pm5 an5 cd5 ct5), sl5⟩) (c5 : PySem.W.codeIn K cd5 "parts" = true) (k5 : PySem.W.keepIn K (.ref f5) = true)
    (a6 : PySem.W.nsIn K mainGlobals "row_total" = some (some (.ref f6))) (l6 : K.lookup f6 = some ⟨oc6, od6, .func (PySem.W.fnOf "row_total" "row_total" (defArgs s_row_total) (defBody s_row_total) (defScope s_row_total) .none kV6 dc6 pm6 an6 cd6 ct6), sl6⟩) (c6 : PySem.W.codeIn K cd6 "row_total" = true) (k6 : PySem.W.keepIn K (.ref f6) = true)
    (a7 : PySem.W.nsIn K mainGlobals "lane_products" = some (some (.ref f7))) (l7 : K.lookup f7 = some ⟨oc7, od7, .func (PySem.W.fnOf "lane_products" "lane_products" (defArgs s_lane_products) (defBody s_lane_products) (defScope s_lane_products) .none kV7 dc7 pm7 an7 cd7 ct7), sl7⟩) (c7 : PySem.W.codeIn K cd7 "lane_products" = true) (k7 : PySem.W.keepIn K (.ref f7) = true)
    (a8 : PySem.W.nsIn K mainGlobals "lane_sum" = some (some (.ref f8))) (l8 : K.lookup f8 = some ⟨oc8, od8, .func (PySem.W.fnOf "lane_sum" "lane_sum" (defArgs s_lane_sum) (defBody s_lane_sum) (defScope s_lane_sum) .none kV8 dc8 pm8 an8 cd8 ct8), sl8⟩) (c8 : PySem.W.codeIn K cd8 "lane_sum" = true) (k8 : PySem.W.keepIn K (.ref f8) = true)
    (a9 : PySem.W.nsIn K mainGlobals "sum_of" = some (some (.ref f9))) (l9 : K.lookup f9 = some ⟨oc9, od9, .func (PySem.W.fnOf "sum_of" "sum_of" (defArgs s_sum_of) (defBody s_sum_of) (defScope s_sum_of) .none kV9 dc9 pm9 an9 cd9 ct9), sl9⟩) (c9 : PySem.W.codeIn K cd9 "sum_of" = true) (k9 : PySem.W.keepIn K (.ref f9) = true)
    (g0 : PySem.W.nsIn K mainGlobals "LANES" = some (some (.int (16) t0)))
    (g1 : PySem.W.nsIn K mainGlobals "SPAN_8" = some (some (.int (256) t1)))
    (g2 : PySem.W.nsIn K mainGlobals "SPAN_16" = some (some (.int (65536) t2)))
    (g3 : PySem.W.nsIn K mainGlobals "SPAN_32" = some (some (.int (4294967296) t3)))
    (z0 : PySem.W.nsIn K mainGlobals "len" = some none)
    (z1 : PySem.W.nsIn K mainGlobals "max" = some none)
    (z2 : PySem.W.nsIn K mainGlobals "min" = some none)
    (z3 : PySem.W.nsIn K mainGlobals "range" = some none)
    : ∃ fd : FuncData, (∀ (s : Shared) (us : List Value), us.length = (["k", "kind", "sums", "a", "b"] : List Str).length → BindsTo s fd ⟨us, []⟩ ((["k", "kind", "sums", "a", "b"] : List Str).zip us)) ∧ ∀ base : Heap, K.In base → base.Ns mainGlobals mg → FnOk P w K mg base CX0 5 fa fd ["k", "kind", "sums", "a", "b"] (spSum K) := by
  have e := hfa.symm.trans (PySem.W.mg_of X G a9)
  cases e
  have F0 := fun_mk (st := s_with_sign) l0 c0 k0
  have b0 := F0.binds (ps := ["bits", "span"]) fun _ _ _ _ _ _ us hl => match us, hl with | [_, _], _ => rfl
  have F1 := fun_mk (st := s_all_with_sign) l1 c1 k1
  have b1 := F1.binds (ps := ["numbers", "span"]) fun _ _ _ _ _ _ us hl => match us, hl with | [_, _], _ => rfl
  have F2 := fun_mk (st := s_hold_in_32_bits) l2 c2 k2
  have b2 := F2.binds (ps := ["number"]) fun _ _ _ _ _ _ us hl => match us, hl with | [_], _ => rfl
  have F3 := fun_mk (st := s_sixteen) l3 c3 k3
  have b3 := F3.binds (ps := ["lanes"]) fun _ _ _ _ _ _ us hl => match us, hl with | [_], _ => rfl
  have F4 := fun_mk (st := s_is_in) l4 c4 k4
  have b4 := F4.binds (ps := ["k", "j"]) fun _ _ _ _ _ _ us hl => match us, hl with | [_, _], _ => rfl
  have F5 := fun_mk (st := s_parts) l5 c5 k5
  have b5 := F5.binds (ps := ["lane", "span"]) fun _ _ _ _ _ _ us hl => match us, hl with | [_, _], _ => rfl
  have F6 := fun_mk (st := s_row_total) l6 c6 k6
  have b6 := F6.binds (ps := ["i", "n", "x", "w"]) fun _ _ _ _ _ _ us hl => match us, hl with | [_, _, _, _], _ => rfl
  have F7 := fun_mk (st := s_lane_products) l7 c7 k7
  have b7 := F7.binds (ps := ["kind", "a", "b"]) fun _ _ _ _ _ _ us hl => match us, hl with | [_, _, _], _ => rfl
  have F8 := fun_mk (st := s_lane_sum) l8 c8 k8
  have b8 := F8.binds (ps := ["kind", "lane", "a", "b"]) fun _ _ _ _ _ _ us hl => match us, hl with | [_, _, _, _], _ => rfl
  have F9 := fun_mk (st := s_sum_of) l9 c9 k9
  have b9 := F9.binds (ps := ["k", "kind", "sums", "a", "b"]) fun _ _ _ _ _ _ us hl => match us, hl with | [_, _, _, _, _], _ => rfl
  have T : Txt K mg ⟨_, _, _, _, _, _, _, _, _, _, _, _, _, _, _, _, _, _, _, _⟩ := ⟨F0, b0, PySem.W.mg_of X G a0, F1, b1, PySem.W.mg_of X G a1, F2, b2, PySem.W.mg_of X G a2, F3, b3, PySem.W.mg_of X G a3, F4, b4, PySem.W.mg_of X G a4, F5, b5, PySem.W.mg_of X G a5, F6, b6, PySem.W.mg_of X G a6, F7, b7, PySem.W.mg_of X G a7, F8, b8, PySem.W.mg_of X G a8, F9, b9, PySem.W.mg_of X G a9, ⟨_, PySem.W.mg_of X G g0⟩, ⟨_, PySem.W.mg_of X G g1⟩, ⟨_, PySem.W.mg_of X G g2⟩, ⟨_, PySem.W.mg_of X G g3⟩, PySem.W.mg_none_of X G z0, PySem.W.mg_none_of X G z1, PySem.W.mg_none_of X G z2, PySem.W.mg_none_of X G z3⟩
  exact ⟨_, fun s us hu => match us, hu with | [_, _, _, _, _], _ => .of_eq rfl, fun base _ _ => ok_sum_of T⟩
end Sp
open PySem PySem.W PyProof.Rows
set_option maxRecDepth 100000 in
set_option maxHeartbeats 8000000 in
theorem PySem.Challenge.cw_smallproducts_s04_sum_of_holds : PySem.Challenge.rw_smallproducts_s04_sum_of.Holds := by
  w_on; k_headS; (case hw => exact ⟨[.int 0, .int 0, .list [], .list [], .list []], by decide +kernel, by decide +kernel⟩)
  k_fillS
  refine L2.walk_specK (r := PySem.Challenge.rw_smallproducts_s04_sum_of) (k := 5) (CX := L2.CX0) (ps := ["k", "kind", "sums", "a", "b"]) (sp := Sp.spSum) (by decide +kernel) rfl rfl ⟨rfl, by decide, by decide⟩ (fun w h Y => PySem.W.kIn_of Y) ?F ?S (fun _ _ _ _ z => z)
  case F =>
    intro w mg fa h Y KX G hmg
    refine' Sp.all_mk KX G hmg ?my_a0 ?my_l0 ?my_c0 ?my_k0 ?my_a1 ?my_l1 ?my_c1 ?my_k1 ?my_a2 ?my_l2 ?my_c2 ?my_k2 ?my_a3 ?my_l3 ?my_c3 ?my_k3 ?my_a4 ?my_l4 ?my_c4 ?my_k4 ?my_a5 ?my_l5 ?my_c5 ?my_k5 ?my_a6 ?my_l6 ?my_c6 ?my_k6 ?my_a7 ?my_l7 ?my_c7 ?my_k7 ?my_a8 ?my_l8 ?my_c8 ?my_k8 ?my_a9 ?my_l9 ?my_c9 ?my_k9 ?my_g0 ?my_g1 ?my_g2 ?my_g3 ?my_z0 ?my_z1 ?my_z2 ?my_z3
    (case my_a0 => k_is)
    (case my_l0 => k_is)
    (case my_c0 => k_is)
    (case my_k0 => k_is)
    (case my_a1 => k_is)
    (case my_l1 => k_is)
    (case my_c1 => k_is)
    (case my_k1 => k_is)
    (case my_a2 => k_is)
    (case my_l2 => k_is)
    (case my_c2 => k_is)
    (case my_k2 => k_is)
    (case my_a3 => k_is)
    (case my_l3 => k_is)
    (case my_c3 => k_is)
    (case my_k3 => k_is)
    (case my_a4 => k_is)
    (case my_l4 => k_is)
    (case my_c4 => k_is)
    (case my_k4 => k_is)
    (case my_a5 => k_is)
    (case my_l5 => k_is)
    (case my_c5 => k_is)
    (case my_k5 => k_is)
    (case my_a6 => k_is)
    (case my_l6 => k_is)
    (case my_c6 => k_is)
    (case my_k6 => k_is)
    (case my_a7 => k_is)
    (case my_l7 => k_is)
    (case my_c7 => k_is)
    (case my_k7 => k_is)
    (case my_a8 => k_is)
    (case my_l8 => k_is)
    (case my_c8 => k_is)
    (case my_k8 => k_is)
    (case my_a9 => k_is)
    (case my_l9 => k_is)
    (case my_c9 => k_is)
    (case my_k9 => k_is)
    (case my_g0 => k_is)
    (case my_g1 => k_is)
    (case my_g2 => k_is)
    (case my_g3 => k_is)
    (case my_z0 => k_is)
    (case my_z1 => k_is)
    (case my_z2 => k_is)
    (case my_z3 => k_is)
  case S =>
    intro K H xs a hO hwi hask hx
    obtain ⟨k, kind, s, a, b, u⟩ := a
    cases hx with
    | cons h1 hx =>
    cases hx with
    | cons h2 hx =>
    cases hx with
    | cons h3 hx =>
    cases hx with
    | cons h4 hx =>
    cases hx with
    | cons h5 hx =>
    cases hx
    cases h1
    cases h2
    cases h3 with
    | lst s3 d3 =>
    cases h4 with
    | lst s4 d4 =>
    cases h5 with
    | lst s5 d5 =>
    have e3 := L2.ints_dw s _ d3
    have e4 := L2.ints_dw a _ d4
    have e5 := L2.ints_dw b _ d5
    subst e3 e4 e5
    exact ⟨_, _, _, _, _, s, a, b, rfl, s3, s4, s5, hask, fun H' p hp => .lst (L2.SqL.of hp) (L2.dw_ints _)⟩
#print axioms PySem.Challenge.cw_smallproducts_s04_sum_of_holds

import PyProof.Rows.All
import Wide.All
import OpenK.AllK
import Wide.FinOn
import Open.SpecLaws
import KE.OsGo
import HandS.ForSpec
import HandS.Comp
import HandS.Wide
import HandS.WideBits
import HandS.Text
import HandS.Iter
import PySem.Challenge.RW_smallproducts_s07_floats
set_option Elab.async false
set_option linter.all false
set_option maxRecDepth 100000
set_option maxHeartbeats 2000000
namespace Sp
/-! ### the mathematics: plain lists and numbers -/
def ws (b sp : Int) : Int := if sp ≤ 2 * b then b - sp else b
def hold (x : Int) : Int := max (-2147483648) (min 2147483647 x)
def gi (l : List Int) (j : Nat) : Int := l.getD j 0
def upto (F : Nat → Int) : Nat → Int
  | 0 => 0
  | k + 1 => upto F k + F k
def dot (xs ws : List Int) (n i : Nat) : Int := upto (fun j => gi xs j * gi ws (n * i + j)) n
theorem upto_congr {F G : Nat → Int} : ∀ {n : Nat}, (∀ k, k < n → F k = G k) → upto F n = upto G n
  | 0, _ => rfl
  | n + 1, h => by
    show upto F n + F n = upto G n + G n
    rw [upto_congr (fun k hk => h k (Nat.lt_succ_of_lt hk)), h n (Nat.lt_succ_self n)]
theorem total_take (l : List Int) (F : Nat → Int) (h : ∀ k, k < l.length → l[k]? = some (F k)) : ∀ n, n ≤ l.length → Sv05.total (l.take n) = upto F n
  | 0, _ => rfl
  | n + 1, hn => by
    have e : l.take (n + 1) = l.take n ++ [F n] := by
      rw [List.take_add_one, h n hn]
      rfl
    have ih := total_take l F h n (Nat.le_of_succ_le hn)
    unfold Sv05.total at ih ⊢
    rw [e, List.foldl_append, ih]
    rfl
theorem total_is {l : List Int} {F : Nat → Int} {n : Nat} (hl : l.length = n) (h : ∀ k, k < n → l[k]? = some (F k)) : Sv05.total l = upto F n := by
  subst hl
  have q := total_take l F h l.length (Nat.le_refl _)
  rw [List.take_length] at q
  exact q
theorem gi_get {l : List Int} {j : Nat} (h : j < l.length) : l[j]? = some (gi l j) := by
  unfold gi
  rw [List.getElem?_eq_getElem h, List.getD_eq_getElem?_getD, List.getElem?_eq_getElem h]
  rfl
theorem gi_mem {l : List Int} {j : Nat} (h : j < l.length) : gi l j ∈ l := by
  have e := gi_get h
  exact List.mem_of_getElem? e
theorem gi_map {f : Int → Int} {l : List Int} {j : Nat} (h : j < l.length) : gi (l.map f) j = f (gi l j) := by
  have e := gi_get (l := l.map f) (j := j) (by rw [List.length_map]; exact h)
  rw [List.getElem?_map, gi_get h] at e
  exact (Option.some.inj e).symm
theorem row_len {n i r : Nat} (hi : i < r) : n * i + n ≤ r * n := by
  have h : n * (i + 1) ≤ n * r := Nat.mul_le_mul_left n hi
  rw [Nat.mul_succ, Nat.mul_comm n r] at h
  exact h
/-- the specification's row, element by element -/
theorem zip_dot {xs ys : List Int} {n r i : Nat} (g : Nat × Nat → Int) (p q : Int → Int) (hx : xs.length = n) (hy : ys.length = r * n) (hi : i < r)
    (hg : ∀ a ∈ xs, ∀ b ∈ ys, g (a.toNat, b.toNat) = p a * q b) :
    Sv05.total (((Sv05Neutral.n xs).zip (Sv05.weights (Sv05Neutral.n ys) n i)).map g) = dot (xs.map p) (ys.map q) n i := by
  have hb := row_len (n := n) hi
  have lw : (Sv05.weights (Sv05Neutral.n ys) n i).length = n := by
    unfold Sv05.weights Sv05Neutral.n
    rw [List.length_take, List.length_drop, List.length_map, hy]
    omega
  have lx : (Sv05Neutral.n xs).length = n := by
    unfold Sv05Neutral.n
    rw [List.length_map, hx]
  refine total_is (by rw [List.length_map, List.length_zip, lw, lx, Nat.min_self]) fun k hk => ?_
  have k1 : k < xs.length := by omega
  have k2 : n * i + k < ys.length := by omega
  have e1 : (Sv05Neutral.n xs)[k]? = some (gi xs k).toNat := by
    unfold Sv05Neutral.n
    rw [List.getElem?_map, gi_get k1]
    rfl
  have e2 : (Sv05.weights (Sv05Neutral.n ys) n i)[k]? = some (gi ys (n * i + k)).toNat := by
    unfold Sv05.weights Sv05Neutral.n
    rw [List.getElem?_take_of_lt hk, List.getElem?_drop, List.getElem?_map, gi_get k2]
    rfl
  have e3 : ((Sv05Neutral.n xs).zip (Sv05.weights (Sv05Neutral.n ys) n i))[k]? = some ((gi xs k).toNat, (gi ys (n * i + k)).toNat) := List.getElem?_zip_eq_some.mpr ⟨e1, e2⟩
  rw [List.getElem?_map, e3, gi_map k1, gi_map k2]
  show some (g _) = _
  rw [hg _ (gi_mem k1) _ (gi_mem k2)]
theorem signed_is {w : Nat} {b : Int} (hw : 0 < w) (h0 : 0 ≤ b) (h1 : b < 2 ^ w) : Sv05.signed w b.toNat = ws b (2 ^ w) := by
  obtain ⟨v, rfl⟩ : ∃ v, w = v + 1 := ⟨w - 1, by omega⟩
  obtain ⟨m, rfl⟩ : ∃ m : Nat, b = (m : Int) := ⟨b.toNat, by omega⟩
  have h1' : m < 2 ^ (v + 1) := by
    have : (m : Int) < ((2 ^ (v + 1) : Nat) : Int) := by rw [Int.natCast_pow]; exact h1
    omega
  have e : ((2 : Int) ^ (v + 1)) = ((2 ^ (v + 1) : Nat) : Int) := by rw [Int.natCast_pow]; rfl
  unfold Sv05.signed ws
  rw [e, Int.toNat_natCast, Nat.mod_eq_of_lt h1', Nat.add_sub_cancel]
  have p : 2 ^ (v + 1) = 2 * 2 ^ v := by rw [Nat.pow_succ, Nat.mul_comm]
  rw [p] at h1' ⊢
  by_cases c : m < 2 ^ v
  · rw [if_pos c, if_neg (by omega)]
  · rw [if_neg c, if_pos (by omega)]
theorem signed8 {b : Int} (h : 0 ≤ b ∧ b < 256) : Sv05.signed 8 b.toNat = ws b 256 := signed_is (w := 8) (by decide) h.1 h.2
theorem signed16 {b : Int} (h : 0 ≤ b ∧ b < 65536) : Sv05.signed 16 b.toNat = ws b 65536 := signed_is (w := 16) (by decide) h.1 h.2
theorem signed32 {b : Int} (h : 0 ≤ b ∧ b < 4294967296) : Sv05.signed 32 b.toNat = ws b 4294967296 := signed_is (w := 32) (by decide) h.1 h.2
theorem unsigned_is (w : Nat) (x : Int) : ((Sv05.unsigned w x : Nat) : Int) = x % (2 ^ w : Nat) := by
  unfold Sv05.unsigned
  have h : (0 : Int) < ((2 ^ w : Nat) : Int) := by
    have := Nat.two_pow_pos w
    omega
  exact Int.toNat_of_nonneg (Int.emod_nonneg _ (by omega))
theorem below_iff {top : Int} {l : List Int} (h : Sv05Neutral.below top l = true) : ∀ a ∈ l, 0 ≤ a ∧ a < top := by
  intro a ha
  unfold Sv05Neutral.below at h
  have q := List.all_eq_true.mp h a ha
  rw [Bool.and_eq_true, decide_eq_true_eq, decide_eq_true_eq] at q
  exact q
theorem many_iff {top k : Int} {yes : Bool} {l : List Int} (h : Sv05Neutral.many top yes k l = true) : (∀ a ∈ l, 0 ≤ a ∧ a < top) ∧ (l.length : Int) = if yes = true then k else 0 := by
  unfold Sv05Neutral.many at h
  rw [Bool.and_eq_true, decide_eq_true_eq] at h
  exact ⟨below_iff h.1, h.2⟩
theorem size_iff {r n : Int} (h0 : 0 ≤ r) (h1 : 0 ≤ n) : Sv05.isSize r.toNat n.toNat = true ↔ ¬ (1024 < r ∨ 65536 < n) := by
  unfold Sv05.isSize
  rw [Bool.and_eq_true, decide_eq_true_eq, decide_eq_true_eq]
  omega
theorem sizes_iff {r n : Int} (h : Sv05Neutral.sizes r n = true) : 0 ≤ r ∧ 0 ≤ n ∧ ((r ≤ 8 ∧ n ≤ 500) ∨ (r ≤ 1024 ∧ n = 0) ∨ 1024 < r ∨ 65536 < n) := by
  unfold Sv05Neutral.sizes at h
  rw [Bool.and_eq_true, Bool.or_eq_true, Bool.or_eq_true, decide_eq_true_eq, decide_eq_true_eq] at h
  obtain ⟨hb, hc⟩ := h
  have b := below_iff hb
  have h0 := (b r (by simp)).1
  have h1 := (b n (by simp)).1
  refine ⟨h0, h1, ?_⟩
  rcases hc with h | h | h
  · exact .inl h
  · exact .inr (.inl h)
  · have : ¬ Sv05.isSize r.toNat n.toNat = true := by
      intro q
      rw [q] at h
      cases h
    rw [size_iff h0 h1] at this
    omega
/-! the two answers -/
def bRow (n : Nat) (x w bias : List Int) (i : Nat) : Int := hold (ws (gi bias i) 4294967296 + dot x (w.map fun b => ws b 256) n i) % 4294967296
def wRow (n : Nat) (x w : List Int) (i : Nat) : Int := dot (x.map fun b => ws b 65536) (w.map fun b => ws b 65536) n i % 18446744073709551616
theorem at_is {l : List Int} {i : Nat} (h : i < l.length) : Sv05.at_ (Sv05Neutral.n l) i = (gi l i).toNat := by
  unfold Sv05.at_ Sv05Neutral.n
  rw [List.getD_eq_getElem?_getD, List.getElem?_map, gi_get h]
  rfl
theorem held_is (x : Int) : Sv05.held x = hold x := rfl
theorem bytes_no {rows n : Int} {x w bias : List Int} (h0 : 0 ≤ rows) (h1 : 0 ≤ n) (h : 1024 < rows ∨ 65536 < n) : PySv05.bytes_of rows n x w bias = [-1] := by
  show (let y := Sv05.does (.bytes (Sv05Neutral.n x) (Sv05Neutral.n w) (Sv05Neutral.n bias) rows.toNat n.toNat); (match y.code with | some z => [z] | none => []) ++ y.l.map Sv05Neutral.said) = [-1]
  unfold Sv05.does
  have e : ¬ Sv05.isSize rows.toNat n.toNat = true := fun q => (size_iff h0 h1).mp q h
  simp only [if_neg e]
  rfl
theorem bytes_yes {rows n : Int} {x w bias : List Int} (h0 : 0 ≤ rows) (h1 : 0 ≤ n) (h : ¬ (1024 < rows ∨ 65536 < n)) (hx : x.length = n.toNat) (hw : w.length = rows.toNat * n.toNat) (hb : bias.length = rows.toNat)
    (bx : ∀ a ∈ x, 0 ≤ a ∧ a < 256) (bw : ∀ a ∈ w, 0 ≤ a ∧ a < 256) (bb : ∀ a ∈ bias, 0 ≤ a ∧ a < 4294967296) :
    PySv05.bytes_of rows n x w bias = 0 :: (List.range rows.toNat).map (bRow n.toNat x w bias) := by
  show (let y := Sv05.does (.bytes (Sv05Neutral.n x) (Sv05Neutral.n w) (Sv05Neutral.n bias) rows.toNat n.toNat); (match y.code with | some z => [z] | none => []) ++ y.l.map Sv05Neutral.said) = _
  unfold Sv05.does
  have e : Sv05.isSize rows.toNat n.toNat = true := (size_iff h0 h1).mpr h
  simp only [if_pos e]
  unfold Sv05.code
  simp only [List.map_map]
  refine congrArg (List.cons 0) (List.map_congr_left fun i hi => ?_)
  have hi := List.mem_range.mp hi
  show ((Sv05.unsigned 32 _ : Nat) : Int) = _
  rw [unsigned_is, held_is, at_is (by omega), signed32 (bb _ (gi_mem (by omega))), zip_dot (p := fun a => a) (q := fun b => ws b 256) _ hx hw hi (fun a ha b hb => by
    show ((a.toNat : Nat) : Int) * Sv05.signed 8 b.toNat = _
    rw [signed8 (bw b hb), Int.toNat_of_nonneg (bx a ha).1]), List.map_id']
  rfl
theorem words_no {rows n : Int} {x w : List Int} (h0 : 0 ≤ rows) (h1 : 0 ≤ n) (h : 1024 < rows ∨ 65536 < n) : PySv05.words rows n x w = [-1] := by
  show (let y := Sv05.does (.words (Sv05Neutral.n x) (Sv05Neutral.n w) rows.toNat n.toNat); (match y.code with | some z => [z] | none => []) ++ y.l.map Sv05Neutral.said) = [-1]
  unfold Sv05.does
  have e : ¬ Sv05.isSize rows.toNat n.toNat = true := fun q => (size_iff h0 h1).mp q h
  simp only [if_neg e]
  rfl
theorem words_yes {rows n : Int} {x w : List Int} (h0 : 0 ≤ rows) (h1 : 0 ≤ n) (h : ¬ (1024 < rows ∨ 65536 < n)) (hx : x.length = n.toNat) (hw : w.length = rows.toNat * n.toNat)
    (bx : ∀ a ∈ x, 0 ≤ a ∧ a < 65536) (bw : ∀ a ∈ w, 0 ≤ a ∧ a < 65536) :
    PySv05.words rows n x w = 0 :: (List.range rows.toNat).map (wRow n.toNat x w) := by
  show (let y := Sv05.does (.words (Sv05Neutral.n x) (Sv05Neutral.n w) rows.toNat n.toNat); (match y.code with | some z => [z] | none => []) ++ y.l.map Sv05Neutral.said) = _
  unfold Sv05.does
  have e : Sv05.isSize rows.toNat n.toNat = true := (size_iff h0 h1).mpr h
  simp only [if_pos e]
  unfold Sv05.code
  simp only [List.map_map]
  refine congrArg (List.cons 0) (List.map_congr_left fun i hi => ?_)
  have hi := List.mem_range.mp hi
  show ((Sv05.unsigned 64 _ : Nat) : Int) = _
  rw [unsigned_is, zip_dot (p := fun b => ws b 65536) (q := fun b => ws b 65536) _ hx hw hi (fun a ha b hb => by
    show Sv05.signed 16 a.toNat * Sv05.signed 16 b.toNat = _
    rw [signed16 (bw b hb), signed16 (bx a ha)])]
  rfl
end Sp
namespace Sp
/-! ### scale and sum, in whole numbers -/
theorem at_all (l : List Int) (i : Nat) : Sv05.at_ (Sv05Neutral.n l) i = (gi l i).toNat := by
  by_cases h : i < l.length
  · exact at_is h
  · unfold Sv05.at_ Sv05Neutral.n gi
    rw [List.getD_eq_getElem?_getD, List.getD_eq_getElem?_getD, List.getElem?_map, List.getElem?_eq_none (by omega)]
    rfl
theorem gi_within {l : List Int} {top : Int} (ht : 0 < top) (h : ∀ a ∈ l, 0 ≤ a ∧ a < top) (i : Nat) : 0 ≤ gi l i ∧ gi l i < top := by
  by_cases c : i < l.length
  · exact h _ (gi_mem c)
  · unfold gi
    rw [List.getD_eq_getElem?_getD, List.getElem?_eq_none (by omega)]
    exact ⟨Int.le_refl 0, ht⟩
def scaleI (m s z x : Int) : Int := max 0 (min 255 (z + (2 * (ws x 4294967296 * m) + 2 ^ s.toNat) / (2 * 2 ^ s.toNat)))
def scaleOk (n s z : Int) : Prop := n ≤ 65536 ∧ 0 ≤ s ∧ s ≤ 62 ∧ 0 ≤ z ∧ z ≤ 255
theorem scale_asked_iff {n m s z : Int} {l : List Int} (h : PySv05.scale_asked n m s z l = true) : 0 ≤ n ∧ (n ≤ 500 ∨ 65536 < n) ∧ (-2147483648 ≤ m ∧ m < 2147483648) ∧ (-2147483648 ≤ s ∧ s < 2147483648) ∧ (-2147483648 ≤ z ∧ z < 2147483648) ∧
    (∀ a ∈ l, 0 ≤ a ∧ a < 4294967296) ∧ (l.length : Int) = if n ≤ 65536 then n else 0 := by
  have h : (Sv05Neutral.below (2 ^ 32) [n] && ((decide (n ≤ 500) || decide (65536 < n)) && (Sv05Neutral.whole32 m && (Sv05Neutral.whole32 s && (Sv05Neutral.whole32 z && Sv05Neutral.many (2 ^ 32) (decide (n ≤ 65536)) n l))))) = true := h
  simp only [Bool.and_eq_true, Bool.or_eq_true, decide_eq_true_eq, Sv05Neutral.whole32] at h
  obtain ⟨h1, h2, h3, h4, h5, h6⟩ := h
  obtain ⟨h7, h8⟩ := many_iff h6
  simp only [decide_eq_true_eq] at h8
  exact ⟨(below_iff h1 n (by simp)).1, h2, h3, h4, h5, h7, h8⟩
theorem scale_no {n m s z : Int} {l : List Int} (h0 : 0 ≤ n) (h : ¬ scaleOk n s z) : PySv05.scale n m s z l = [-1] := by
  show (let y := Sv05.does (.scale (Sv05Neutral.n l) n.toNat m s z); (match y.code with | some z => [z] | none => []) ++ y.l.map Sv05Neutral.said) = [-1]
  unfold Sv05.does
  have e : ¬ (n.toNat ≤ 65536 ∧ 0 ≤ s ∧ s ≤ 62 ∧ 0 ≤ z ∧ z ≤ 255) := fun q => h ⟨by omega, q.2⟩
  simp only [if_neg e]
  rfl
theorem scale_yes {n m s z : Int} {l : List Int} (h0 : 0 ≤ n) (h : scaleOk n s z) (hl : ∀ a ∈ l, 0 ≤ a ∧ a < 4294967296) : PySv05.scale n m s z l = 0 :: l.map (scaleI m s z) := by
  show (let y := Sv05.does (.scale (Sv05Neutral.n l) n.toNat m s z); (match y.code with | some z => [z] | none => []) ++ y.l.map Sv05Neutral.said) = _
  unfold Sv05.does
  have e : n.toNat ≤ 65536 ∧ 0 ≤ s ∧ s ≤ 62 ∧ 0 ≤ z ∧ z ≤ 255 := ⟨by have := h.1; omega, h.2⟩
  simp only [if_pos e]
  unfold Sv05.code Sv05Neutral.n
  simp only [List.map_map]
  refine congrArg (List.cons 0) (List.map_congr_left fun x hx => ?_)
  show (((max 0 (min 255 (z + Sv05.nearest (Sv05.signed 32 x.toNat * m) s.toNat))).toNat : Nat) : Int) = _
  rw [Int.toNat_of_nonneg (by omega), signed32 (hl x hx)]
  unfold Sv05.nearest scaleI
  rw [Int.natCast_pow]
  rfl
/-! lanes -/
theorem lanes_iff {l : List Int} (h : Sv05Neutral.lanes l = true) : (∀ a ∈ l, 0 ≤ a ∧ a < 4294967296) ∧ l.length ≤ 16 := by
  unfold Sv05Neutral.lanes at h
  rw [Bool.and_eq_true, decide_eq_true_eq] at h
  exact ⟨below_iff h.1, h.2⟩
def partI (bits : Nat) (x : Int) (i : Nat) : Int := x / 2 ^ (bits * i) % 2 ^ bits
theorem part_is {bits i : Nat} {x : Int} (h : 0 ≤ x) : ((Sv05.part bits x.toNat i : Nat) : Int) = partI bits x i := by
  obtain ⟨m, rfl⟩ : ∃ m : Nat, x = (m : Int) := ⟨x.toNat, by omega⟩
  unfold Sv05.part partI
  rw [Int.toNat_natCast, Int.natCast_emod, Int.natCast_ediv, Int.natCast_pow, Int.natCast_pow]
  rfl
theorem partI_within (bits i : Nat) (x : Int) : 0 ≤ partI bits x i ∧ partI bits x i < 2 ^ bits := by
  have h : (0 : Int) < 2 ^ bits := by
    have := Nat.two_pow_pos bits
    have e : ((2 : Int) ^ bits) = ((2 ^ bits : Nat) : Int) := by rw [Int.natCast_pow]; rfl
    omega
  exact ⟨Int.emod_nonneg _ (by omega), Int.emod_lt_of_pos _ h⟩
theorem signed_part {bits i : Nat} {x : Int} (hb : 0 < bits) (h : 0 ≤ x) : Sv05.signed bits (Sv05.part bits x.toNat i) = ws (partI bits x i) (2 ^ bits) := by
  have w := partI_within bits i x
  rw [← signed_is hb w.1 w.2, ← part_is h, Int.toNat_natCast]
def fourI (a b : Int) : Int := partI 8 a 0 * ws (partI 8 b 0) 256 + partI 8 a 1 * ws (partI 8 b 1) 256 + partI 8 a 2 * ws (partI 8 b 2) 256 + partI 8 a 3 * ws (partI 8 b 3) 256
def twoI (a b : Int) : Int := ws (partI 16 a 0) 65536 * ws (partI 16 b 0) 65536 + ws (partI 16 a 1) 65536 * ws (partI 16 b 1) 65536
def laneI (kind s a b : Int) : Int :=
  if kind = 0 then (ws s 4294967296 + fourI a b) % 4294967296
  else if kind = 1 then hold (ws s 4294967296 + fourI a b) % 4294967296
  else if kind = 2 then (ws s 4294967296 + twoI a b) % 4294967296
  else if kind = 3 then hold (ws s 4294967296 + twoI a b) % 4294967296
  else s
theorem four_is {a b : Int} (ha : 0 ≤ a) (hb : 0 ≤ b) : Sv05.total ((List.range 4).map fun i => (Sv05.part 8 a.toNat i : Int) * Sv05.signed 8 (Sv05.part 8 b.toNat i)) = fourI a b := by
  show (0 : Int) + (Sv05.part 8 a.toNat 0 : Int) * Sv05.signed 8 (Sv05.part 8 b.toNat 0) + (Sv05.part 8 a.toNat 1 : Int) * Sv05.signed 8 (Sv05.part 8 b.toNat 1) + (Sv05.part 8 a.toNat 2 : Int) * Sv05.signed 8 (Sv05.part 8 b.toNat 2) + (Sv05.part 8 a.toNat 3 : Int) * Sv05.signed 8 (Sv05.part 8 b.toNat 3) = _
  rw [part_is ha, part_is ha, part_is ha, part_is ha, signed_part (by decide) hb, signed_part (by decide) hb, signed_part (by decide) hb, signed_part (by decide) hb, Int.zero_add]
  rfl
theorem two_is {a b : Int} (ha : 0 ≤ a) (hb : 0 ≤ b) : Sv05.total ((List.range 2).map fun i => Sv05.signed 16 (Sv05.part 16 a.toNat i) * Sv05.signed 16 (Sv05.part 16 b.toNat i)) = twoI a b := by
  show (0 : Int) + Sv05.signed 16 (Sv05.part 16 a.toNat 0) * Sv05.signed 16 (Sv05.part 16 b.toNat 0) + Sv05.signed 16 (Sv05.part 16 a.toNat 1) * Sv05.signed 16 (Sv05.part 16 b.toNat 1) = _
  rw [signed_part (by decide) ha, signed_part (by decide) ha, signed_part (by decide) hb, signed_part (by decide) hb, Int.zero_add]
  rfl
theorem lane_is {kind s a b : Int} (hs : 0 ≤ s ∧ s < 4294967296) (ha : 0 ≤ a) (hb : 0 ≤ b) : ((Sv05.laneSum kind s.toNat a.toNat b.toNat : Nat) : Int) = laneI kind s a b := by
  unfold Sv05.laneSum laneI
  dsimp only
  rw [four_is ha hb, two_is ha hb, signed32 hs]
  by_cases c0 : kind = 0
  · rw [if_pos c0, if_pos c0, unsigned_is]
    rfl
  rw [if_neg c0, if_neg c0]
  by_cases c1 : kind = 1
  · rw [if_pos c1, if_pos c1, unsigned_is]
    rfl
  rw [if_neg c1, if_neg c1]
  by_cases c2 : kind = 2
  · rw [if_pos c2, if_pos c2, unsigned_is]
    rfl
  rw [if_neg c2, if_neg c2]
  by_cases c3 : kind = 3
  · rw [if_pos c3, if_pos c3, unsigned_is]
    rfl
  rw [if_neg c3, if_neg c3]
  exact Int.toNat_of_nonneg hs.1
/-- bit j of k, as a remainder -/
def inKI (k : Int) (j : Nat) : Prop := k / 2 ^ j % 2 = 1
instance (k : Int) (j : Nat) : Decidable (inKI k j) := inferInstanceAs (Decidable (k / 2 ^ j % 2 = 1))
theorem inK_iff {k : Int} {j : Nat} (h : 0 ≤ k) : Sv05.inK k.toNat j = true ↔ inKI k j := by
  obtain ⟨m, rfl⟩ : ∃ m : Nat, k = (m : Int) := ⟨k.toNat, by omega⟩
  unfold Sv05.inK inKI
  rw [Int.toNat_natCast, Nat.testBit_eq_decide_div_mod_eq, decide_eq_true_eq]
  have e : ((2 : Int) ^ j) = ((2 ^ j : Nat) : Int) := by rw [Int.natCast_pow]; rfl
  rw [e]
  omega
theorem sum_asked_iff {k kind : Int} {s a b : List Int} (h : PySv05.sum_of_asked k kind s a b = true) : (0 ≤ k ∧ k < 65536) ∧ (-2147483648 ≤ kind ∧ kind < 2147483648) ∧ ((∀ x ∈ s, 0 ≤ x ∧ x < 4294967296) ∧ s.length ≤ 16) ∧ ((∀ x ∈ a, 0 ≤ x ∧ x < 4294967296) ∧ a.length ≤ 16) ∧ ((∀ x ∈ b, 0 ≤ x ∧ x < 4294967296) ∧ b.length ≤ 16) := by
  have h : (Sv05Neutral.below 65536 [k] && (Sv05Neutral.whole32 kind && (Sv05Neutral.lanes s && (Sv05Neutral.lanes a && Sv05Neutral.lanes b)))) = true := h
  simp only [Bool.and_eq_true, decide_eq_true_eq, Sv05Neutral.whole32] at h
  obtain ⟨h1, h2, h3, h4, h5⟩ := h
  exact ⟨below_iff h1 k (by simp), h2, lanes_iff h3, lanes_iff h4, lanes_iff h5⟩
theorem sum_is {k kind : Int} {s a b : List Int} (hk : 0 ≤ k) (hs : ∀ x ∈ s, 0 ≤ x ∧ x < 4294967296) (ha : ∀ x ∈ a, 0 ≤ x ∧ x < 4294967296) (hb : ∀ x ∈ b, 0 ≤ x ∧ x < 4294967296) :
    PySv05.sum_of k kind s a b = (List.range 16).map fun j => if inKI k j then laneI kind (gi s j) (gi a j) (gi b j) else gi s j := by
  show ([] : List Int) ++ (((List.range 16).map fun j => if Sv05.inK k.toNat j = true then Sv05.laneSum kind (Sv05.at_ (Sv05Neutral.n s) j) (Sv05.at_ (Sv05Neutral.n a) j) (Sv05.at_ (Sv05Neutral.n b) j) else Sv05.at_ (Sv05Neutral.n s) j).map some).map Sv05Neutral.said = _
  rw [List.nil_append, List.map_map, List.map_map]
  refine List.map_congr_left fun j _ => ?_
  have ws := gi_within (by decide) hs j
  have wa := gi_within (by decide) ha j
  have wb := gi_within (by decide) hb j
  show (((if Sv05.inK k.toNat j = true then Sv05.laneSum kind (Sv05.at_ (Sv05Neutral.n s) j) (Sv05.at_ (Sv05Neutral.n a) j) (Sv05.at_ (Sv05Neutral.n b) j) else Sv05.at_ (Sv05Neutral.n s) j) : Nat) : Int) = _
  rw [at_all, at_all, at_all]
  by_cases c : inKI k j
  · rw [if_pos c, if_pos ((inK_iff hk).mpr c)]
    exact lane_is ws wa.1 wb.1
  · rw [if_neg c, if_neg (fun z => c ((inK_iff hk).mp z))]
    exact Int.toNat_of_nonneg ws.1
end Sp
namespace Sp
/-! ### rounding to 24 bits, by the place of the highest bit alone -/
/-- the 24 bits that are kept, rounded: from 2^23 to 2^24 -/
def rq (v : Nat) : Nat := if 2 ^ (v.log2 - 23) < 2 * (v % 2 ^ (v.log2 - 23)) ∨ (2 * (v % 2 ^ (v.log2 - 23)) = 2 ^ (v.log2 - 23) ∧ v / 2 ^ (v.log2 - 23) % 2 = 1) then v / 2 ^ (v.log2 - 23) + 1 else v / 2 ^ (v.log2 - 23)
theorem rounded_def (s : Bool) (v : Nat) : Sv05.rounded s v = if rq v * 2 ^ (v.log2 - 23) < 2 ^ 172 then Sv05.single s 0 else if 2 ^ 426 ≤ rq v * 2 ^ (v.log2 - 23) then Sv05.single s 0x7F800000
    else Sv05.single s (((rq v * 2 ^ (v.log2 - 23)).log2 - 171) * 2 ^ 23 + rq v * 2 ^ (v.log2 - 23) / 2 ^ ((rq v * 2 ^ (v.log2 - 23)).log2 - 23) % 2 ^ 23) := rfl
theorem q_within {v : Nat} (h : 23 ≤ v.log2) : 2 ^ 23 ≤ v / 2 ^ (v.log2 - 23) ∧ v / 2 ^ (v.log2 - 23) < 2 ^ 24 := by
  have hv : v ≠ 0 := by
    intro e
    rw [e] at h
    exact absurd h (by decide)
  have b := (Nat.log2_eq_iff hv).mp rfl
  have hp := Nat.two_pow_pos (v.log2 - 23)
  refine ⟨(Nat.le_div_iff_mul_le hp).mpr ?_, (Nat.div_lt_iff_lt_mul hp).mpr ?_⟩
  · rw [← Nat.pow_add, show 23 + (v.log2 - 23) = v.log2 by omega]
    exact b.1
  · rw [← Nat.pow_add, show 24 + (v.log2 - 23) = v.log2 + 1 by omega]
    exact b.2
theorem rq_within {v : Nat} (h : 23 ≤ v.log2) : 2 ^ 23 ≤ rq v ∧ rq v ≤ 2 ^ 24 := by
  have b := q_within h
  unfold rq
  split
  · omega
  · omega
/-- where the highest bit is 2^172 or more and below 2^426: the bits are one sum, whether or not the rounding goes up to the next power -/
theorem rounded_mid {s : Bool} {v : Nat} (h1 : 172 ≤ v.log2) (h2 : v.log2 ≤ 425) : Sv05.rounded s v = Sv05.single s ((v.log2 - 172) * 2 ^ 23 + rq v) := by
  obtain ⟨b1, b2⟩ := rq_within (v := v) (by omega)
  have lo : 2 ^ v.log2 ≤ rq v * 2 ^ (v.log2 - 23) := by
    have z := Nat.mul_le_mul_right (2 ^ (v.log2 - 23)) b1
    rw [← Nat.pow_add, show 23 + (v.log2 - 23) = v.log2 by omega] at z
    exact z
  rw [rounded_def, if_neg (Nat.not_lt.mpr (Nat.le_trans (Nat.pow_le_pow_right (by decide) h1) lo))]
  by_cases c : rq v = 2 ^ 24
  · have en : rq v * 2 ^ (v.log2 - 23) = 2 ^ (v.log2 + 1) := by
      rw [c, ← Nat.pow_add, show 24 + (v.log2 - 23) = v.log2 + 1 by omega]
    rw [en, Nat.log2_two_pow, c]
    by_cases c2 : v.log2 = 425
    · rw [c2, if_pos (Nat.le_refl _)]
    · have : ¬ 2 ^ 426 ≤ 2 ^ (v.log2 + 1) := Nat.not_le.mpr (Nat.pow_lt_pow_right (by decide) (by omega))
      rw [if_neg this]
      have e : 2 ^ (v.log2 + 1) / 2 ^ (v.log2 + 1 - 23) = 2 ^ 23 := by
        rw [Nat.pow_div (by omega) (by decide)]
        congr 1
        omega
      rw [e]
      refine congrArg (Sv05.single s) ?_
      omega
  · have hi : rq v * 2 ^ (v.log2 - 23) < 2 ^ (v.log2 + 1) := by
      have z := Nat.mul_lt_mul_of_pos_right (show rq v < 2 ^ 24 by omega) (Nat.two_pow_pos (v.log2 - 23))
      rw [← Nat.pow_add, show 24 + (v.log2 - 23) = v.log2 + 1 by omega] at z
      exact z
    have hl : (rq v * 2 ^ (v.log2 - 23)).log2 = v.log2 := (Nat.log2_eq_iff (by
      have := Nat.two_pow_pos v.log2
      omega)).mpr ⟨lo, hi⟩
    rw [if_neg (Nat.not_le.mpr (Nat.lt_of_lt_of_le hi (Nat.pow_le_pow_right (by decide) (by omega)))), hl, Nat.mul_div_cancel _ (Nat.two_pow_pos _)]
    refine congrArg (Sv05.single s) ?_
    omega
theorem rounded_high {s : Bool} {v : Nat} (h1 : 426 ≤ v.log2) : Sv05.rounded s v = Sv05.single s 0x7F800000 := by
  obtain ⟨b1, b2⟩ := rq_within (v := v) (by omega)
  have lo : 2 ^ v.log2 ≤ rq v * 2 ^ (v.log2 - 23) := by
    have z := Nat.mul_le_mul_right (2 ^ (v.log2 - 23)) b1
    rw [← Nat.pow_add, show 23 + (v.log2 - 23) = v.log2 by omega] at z
    exact z
  rw [rounded_def, if_neg (Nat.not_lt.mpr (Nat.le_trans (Nat.pow_le_pow_right (by decide) (show 172 ≤ v.log2 by omega)) lo)), if_pos (Nat.le_trans (Nat.pow_le_pow_right (by decide) h1) lo)]
theorem rounded_171 {s : Bool} {v : Nat} (h1 : v.log2 = 171) : Sv05.rounded s v = Sv05.single s (if rq v = 2 ^ 24 then 2 ^ 23 else 0) := by
  obtain ⟨b1, b2⟩ := rq_within (v := v) (by omega)
  rw [rounded_def, h1]
  by_cases c : rq v = 2 ^ 24
  · rw [if_pos c, c]
    cases s <;> decide +kernel
  · rw [if_neg c]
    have z := Nat.mul_lt_mul_of_pos_right (show rq v < 2 ^ 24 by omega) (Nat.two_pow_pos (171 - 23))
    rw [if_pos (Nat.lt_of_lt_of_le z (by decide +kernel))]
theorem rounded_low {s : Bool} {v : Nat} (h1 : v.log2 < 171) : Sv05.rounded s v = Sv05.single s 0 := by
  rw [rounded_def]
  refine if_pos ?_
  by_cases c : 23 ≤ v.log2
  · obtain ⟨b1, b2⟩ := rq_within c
    have z := Nat.mul_le_mul_right (2 ^ (v.log2 - 23)) b2
    rw [← Nat.pow_add] at z
    exact Nat.lt_of_le_of_lt z (Nat.pow_lt_pow_right (by decide) (by omega))
  · have e : v.log2 - 23 = 0 := by omega
    have hr : rq v ≤ v + 1 := by
      unfold rq
      rw [e, Nat.pow_zero, Nat.div_one]
      split <;> omega
    have hv : v < 2 ^ 23 := by
      by_cases v0 : v = 0
      · rw [v0]
        decide
      · exact Nat.lt_of_lt_of_le ((Nat.log2_eq_iff v0).mp rfl).2 (Nat.pow_le_pow_right (by decide) (by omega))
    rw [e, Nat.pow_zero, Nat.mul_one]
    exact Nat.lt_of_le_of_lt (show rq v ≤ 2 ^ 24 by omega) (by decide +kernel)
end Sp
namespace Sp
/-! ### singles, in whole numbers -/
def nanI (x : Int) : Prop := 2139095040 < x % 2147483648
def infI (x : Int) : Prop := x % 2147483648 = 2139095040
def zerI (x : Int) : Prop := x % 2147483648 < 8388608
instance (x : Int) : Decidable (nanI x) := inferInstanceAs (Decidable (2139095040 < x % 2147483648))
instance (x : Int) : Decidable (infI x) := inferInstanceAs (Decidable (x % 2147483648 = 2139095040))
instance (x : Int) : Decidable (zerI x) := inferInstanceAs (Decidable (x % 2147483648 < 8388608))
def nearI (v u : Int) : Int := if u < 2 * (v % u) ∨ (2 * (v % u) = u ∧ v / u % 2 = 1) then v / u + 1 else v / u
theorem nanB (a : Nat) : Sv05.isNan a = decide (nanI a) := by
  rw [Bool.eq_iff_iff, decide_eq_true_eq]
  unfold Sv05.isNan Sv05.mag nanI
  rw [decide_eq_true_eq]
  omega
theorem infB (a : Nat) : Sv05.isInf a = decide (infI a) := by
  rw [Bool.eq_iff_iff, decide_eq_true_eq]
  unfold Sv05.isInf Sv05.mag infI
  rw [beq_iff_eq]
  omega
theorem zerB (a : Nat) : Sv05.isZero a = decide (zerI a) := by
  rw [Bool.eq_iff_iff, decide_eq_true_eq]
  unfold Sv05.isZero Sv05.mag zerI
  rw [decide_eq_true_eq]
  omega
theorem minB {a : Nat} (h : a < 4294967296) : Sv05.minus a = decide (2147483648 ≤ a) := by
  unfold Sv05.minus
  rw [decide_eq_decide]
  omega
/-! short -/
def bfI (x : Int) : Int := if nanI x then ((x.toNat / 65536 ||| 64 : Nat) : Int) else if zerI x then x / 2147483648 * 32768 else nearI x 65536
theorem short_is {x : Int} (h : 0 ≤ x ∧ x < 4294967296) : ((Sv05.short x.toNat : Nat) : Int) = bfI x := by
  obtain ⟨a, rfl⟩ : ∃ a : Nat, x = (a : Int) := ⟨x.toNat, by omega⟩
  rw [Int.toNat_natCast]
  have ha : a < 4294967296 := by omega
  unfold Sv05.short bfI
  rw [nanB, zerB, minB ha, Int.toNat_natCast]
  simp only [decide_eq_true_eq]
  have e : a % 2 ^ 32 = a := Nat.mod_eq_of_lt ha
  rw [e]
  by_cases c1 : nanI a
  · rw [if_pos c1, if_pos c1]
  rw [if_neg c1, if_neg c1]
  by_cases c2 : zerI a
  · rw [if_pos c2, if_pos c2]
    by_cases c3 : 2147483648 ≤ a
    · rw [if_pos c3]
      omega
    · rw [if_neg c3]
      omega
  rw [if_neg c2, if_neg c2]
  unfold nearI
  by_cases c3 : 0x8000 < a % 65536 ∨ (a % 65536 = 0x8000 ∧ a / 65536 % 2 = 1)
  · rw [if_pos c3, if_pos (by omega)]
    omega
  · rw [if_neg c3, if_neg (by omega)]
    omega
theorem bf_within {x : Int} (h : 0 ≤ x ∧ x < 4294967296) : 0 ≤ bfI x ∧ bfI x ≤ 65536 := by
  unfold bfI
  split
  · refine ⟨by omega, ?_⟩
    have q : x.toNat / 65536 ||| 64 < 2 ^ 16 := Nat.or_lt_two_pow (by omega) (by decide)
    omega
  · split
    · omega
    · unfold nearI
      split <;> omega
theorem short_asked_iff {l h : List Int} (q : PySv05.short_asked l h = true) : ((∀ x ∈ l, 0 ≤ x ∧ x < 4294967296) ∧ l.length ≤ 16) ∧ ((∀ x ∈ h, 0 ≤ x ∧ x < 4294967296) ∧ h.length ≤ 16) := by
  have q : (Sv05Neutral.lanes l && Sv05Neutral.lanes h) = true := q
  rw [Bool.and_eq_true] at q
  exact ⟨lanes_iff q.1, lanes_iff q.2⟩
/-- the number at place i of low's sixteen and then high's -/
def lohi (l h : List Int) (i : Nat) : Int := if i < 16 then gi l i else gi h (i - 16)
def shortI (l h : List Int) (j : Nat) : Int := bfI (lohi l h (2 * j)) + 65536 * bfI (lohi l h (2 * j + 1))
theorem short_all {l h : List Int} (hl : ∀ x ∈ l, 0 ≤ x ∧ x < 4294967296) (hh : ∀ x ∈ h, 0 ≤ x ∧ x < 4294967296) : PySv05.short l h = (List.range 16).map (shortI l h) := by
  show ([] : List Int) ++ (((List.range 16).map fun j => if j < 8 then Sv05.short (Sv05.at_ (Sv05Neutral.n l) (2 * j)) + 65536 * Sv05.short (Sv05.at_ (Sv05Neutral.n l) (2 * j + 1)) else Sv05.short (Sv05.at_ (Sv05Neutral.n h) (2 * j - 16)) + 65536 * Sv05.short (Sv05.at_ (Sv05Neutral.n h) (2 * j - 15))).map some).map Sv05Neutral.said = _
  rw [List.nil_append, List.map_map, List.map_map]
  refine List.map_congr_left fun j hj => ?_
  have hj := List.mem_range.mp hj
  show (((if j < 8 then Sv05.short (Sv05.at_ (Sv05Neutral.n l) (2 * j)) + 65536 * Sv05.short (Sv05.at_ (Sv05Neutral.n l) (2 * j + 1)) else Sv05.short (Sv05.at_ (Sv05Neutral.n h) (2 * j - 16)) + 65536 * Sv05.short (Sv05.at_ (Sv05Neutral.n h) (2 * j - 15)) : Nat)) : Int) = _
  unfold shortI lohi
  by_cases c : j < 8
  · rw [if_pos c, if_pos (by omega), if_pos (by omega), at_all, at_all, Int.natCast_add, Int.natCast_mul, short_is (gi_within (by decide) hl _), short_is (gi_within (by decide) hl _)]
    rfl
  · rw [if_neg c, if_neg (by omega), if_neg (by omega), at_all, at_all, Int.natCast_add, Int.natCast_mul, short_is (gi_within (by decide) hh _), short_is (gi_within (by decide) hh _), show 2 * j - 15 = 2 * j + 1 - 16 by omega]
    rfl
/-! a step -/
def sgnI (p q : Int) : Int := (p / 2147483648 + q / 2147483648) % 2
def sizeI (x : Int) : Int := (8388608 + x % 2147483648 % 8388608) * 2 ^ (x % 2147483648 / 8388608 - 1).toNat
def exactI (x : Int) : Int := if zerI x then 0 else if 2147483648 ≤ x then -sizeI x else sizeI x
def surp (t : Int) : Nat := t.natAbs.log2 - 23
def tallI (t : Int) : Int := ((surp t : Int) - 149) * 8388608 + nearI (t.natAbs : Int) (2 ^ surp t)
def rndI (t : Int) : Int := min (if tallI t < 8388608 then 0 else tallI t) 2139095040 + (if t < 0 then 2147483648 else 0)
def infSumI (x p q : Int) : Int := if ¬ infI p ∧ ¬ infI q then x else if zerI p ∨ zerI q then -1 else
  if infI x ∧ x ≠ 2139095040 + 2147483648 * sgnI p q then -1 else 2139095040 + 2147483648 * sgnI p q
def totI (x p q : Int) : Int := exactI x * exactI 1065353216 + exactI p * exactI q
def addI (x p q : Int) : Int := if nanI x ∨ nanI p ∨ nanI q then -1 else if infI x ∨ infI p ∨ infI q then infSumI x p q else
  if totI x p q = 0 then 2147483648 * (x / 2147483648 * sgnI p q) else rndI (totI x p q)
theorem near_is (v e : Nat) : nearI (v : Int) (2 ^ e) = ((if 2 ^ e < 2 * (v % 2 ^ e) ∨ (2 * (v % 2 ^ e) = 2 ^ e ∧ v / 2 ^ e % 2 = 1) then v / 2 ^ e + 1 else v / 2 ^ e : Nat) : Int) := by
  have e2 : ((2 : Int) ^ e) = ((2 ^ e : Nat) : Int) := by rw [Int.natCast_pow]; rfl
  unfold nearI
  rw [e2, ← Int.natCast_ediv, ← Int.natCast_emod]
  generalize v / 2 ^ e = q
  generalize v % 2 ^ e = r
  generalize 2 ^ e = u
  by_cases c : u < 2 * r ∨ (2 * r = u ∧ q % 2 = 1)
  · rw [if_pos c, if_pos (by omega)]
    omega
  · rw [if_neg c, if_neg (by omega)]
theorem tall_is (t : Int) : tallI t = ((surp t : Int) - 149) * 8388608 + (rq t.natAbs : Int) := by
  unfold tallI
  rw [near_is]
  rfl
theorem single_is {s : Bool} {c : Prop} [Decidable c] {m : Nat} {z : Int} (hz : z = (m : Int)) (hs : s = decide c) : ((Sv05.single s m : Nat) : Int) = z + if c then 2147483648 else 0 := by
  subst hz hs
  unfold Sv05.single
  by_cases h : c
  · rw [if_pos h, if_pos (decide_eq_true h)]
    omega
  · rw [if_neg h, if_neg (fun z => h (of_decide_eq_true z))]
    omega
theorem rq_low {v : Nat} (h : v.log2 < 23) : rq v ≤ 2 ^ 24 := by
  have e : v.log2 - 23 = 0 := by omega
  have hr : rq v ≤ v + 1 := by
    unfold rq
    rw [e, Nat.pow_zero, Nat.div_one]
    split <;> omega
  have hv : v < 2 ^ 23 := by
    by_cases v0 : v = 0
    · rw [v0]
      decide
    · exact Nat.lt_of_lt_of_le ((Nat.log2_eq_iff v0).mp rfl).2 (Nat.pow_le_pow_right (by decide) (by omega))
  omega
theorem rnd_is (t : Int) : rndI t = ((Sv05.rounded (decide (t < 0)) t.natAbs : Nat) : Int) := by
  symm
  unfold rndI
  rw [tall_is]
  unfold surp
  have q24 : rq t.natAbs ≤ 2 ^ 24 := by
    rcases Nat.lt_or_ge t.natAbs.log2 23 with c | c
    · exact rq_low c
    · exact (rq_within c).2
  rcases Nat.lt_or_ge t.natAbs.log2 171 with c | c
  · rw [rounded_low c]
    refine single_is ?_ rfl
    rw [if_pos (by omega)]
    decide
  have q23 := (rq_within (v := t.natAbs) (by omega)).1
  rcases Nat.lt_or_ge t.natAbs.log2 172 with d | d
  · have e : t.natAbs.log2 = 171 := by omega
    rw [rounded_171 e]
    refine single_is ?_ rfl
    rw [e]
    by_cases f : rq t.natAbs = 2 ^ 24
    · rw [if_pos f, f]
      decide
    · rw [if_neg f, if_pos (by omega)]
      decide
  rcases Nat.lt_or_ge t.natAbs.log2 426 with e | e
  · rw [rounded_mid d (by omega)]
    refine single_is ?_ rfl
    rw [if_neg (by omega)]
    omega
  · rw [rounded_high e]
    refine single_is ?_ rfl
    rw [if_neg (by omega)]
    omega
theorem size_units {a : Nat} (h : ¬ zerI a) : sizeI a = ((Sv05.units a : Nat) : Int) := by
  unfold Sv05.units
  rw [zerB, if_neg (fun z => h (of_decide_eq_true z))]
  unfold sizeI Sv05.mag
  unfold zerI at h
  rw [show ((a : Int) % 2147483648 / 8388608 - 1).toNat = a % 2 ^ 31 / 2 ^ 23 - 1 by omega, Int.natCast_mul, Int.natCast_pow, Int.natCast_add, Int.natCast_emod, Int.natCast_emod]
  rfl
theorem exact_is {a : Nat} (h : a < 4294967296) : exactI a = Sv05.value a := by
  unfold exactI Sv05.value
  rw [minB h]
  by_cases c : zerI a
  · have u : Sv05.units a = 0 := by
      unfold Sv05.units
      rw [zerB, if_pos (decide_eq_true c)]
    rw [if_pos c, u]
    split <;> rfl
  · rw [if_neg c, size_units c]
    by_cases d : 2147483648 ≤ a
    · rw [if_pos (by omega), if_pos (decide_eq_true d)]
    · rw [if_neg (by omega), if_neg (fun z => d (of_decide_eq_true z))]
theorem sgn_is {a b : Nat} (ha : a < 4294967296) (hb : b < 4294967296) : sgnI a b = if (Sv05.minus a != Sv05.minus b) = true then 1 else 0 := by
  unfold sgnI
  rw [minB ha, minB hb]
  by_cases c : 2147483648 ≤ a <;> by_cases d : 2147483648 ≤ b
  · rw [decide_eq_true c, decide_eq_true d, if_neg (by decide)]
    omega
  · rw [decide_eq_true c, decide_eq_false d, if_pos (by decide)]
    omega
  · rw [decide_eq_false c, decide_eq_true d, if_pos (by decide)]
    omega
  · rw [decide_eq_false c, decide_eq_false d, if_neg (by decide)]
    omega
theorem one_is : exactI 1065353216 = ((2 ^ 149 : Nat) : Int) := by decide +kernel
theorem tot_is {a b c : Nat} (ha : a < 4294967296) (hb : b < 4294967296) (hc : c < 4294967296) : totI a b c = Sv05.value a * (2 ^ 149 : Nat) + Sv05.value b * Sv05.value c := by
  unfold totI
  rw [one_is, exact_is ha, exact_is hb, exact_is hc]
theorem inf_not_zer {x : Int} (h : infI x) : ¬ zerI x := by
  unfold infI at h
  unfold zerI
  omega
theorem single_inf (s : Bool) : ((Sv05.single s 0x7F800000 : Nat) : Int) = 2139095040 + 2147483648 * (if s = true then 1 else 0) := by
  cases s <;> rfl
theorem single_zero (s : Bool) : ((Sv05.single s 0 : Nat) : Int) = 2147483648 * (if s = true then 1 else 0) := by
  cases s <;> rfl
theorem inf_self {a : Nat} (ha : a < 4294967296) (h : infI a) : (a : Int) = 2139095040 + 2147483648 * (if Sv05.minus a = true then 1 else 0) := by
  rw [minB ha]
  unfold infI at h
  by_cases c : 2147483648 ≤ a
  · rw [if_pos (decide_eq_true c)]
    omega
  · rw [if_neg (fun z => c (of_decide_eq_true z))]
    omega
theorem add_some {a b c : Nat} (ha : a < 4294967296) (hb : b < 4294967296) (hc : c < 4294967296) : addI a b c = Sv05Neutral.said (Sv05.step a b c) := by
  unfold addI Sv05.step
  dsimp only
  rw [nanB, nanB, nanB, infB, infB, infB, zerB, zerB]
  by_cases n1 : nanI a
  · rw [if_pos (.inl n1), decide_eq_true n1]
    rfl
  by_cases n2 : nanI b
  · rw [if_pos (.inr (.inl n2)), decide_eq_true n2, Bool.or_true]
    rfl
  by_cases n3 : nanI c
  · rw [if_pos (.inr (.inr n3)), decide_eq_true n3, Bool.or_true]
    rfl
  rw [if_neg (fun z => z.elim n1 fun z => z.elim n2 n3), decide_eq_false n1, decide_eq_false n2, decide_eq_false n3, Bool.false_or, Bool.false_or, Bool.false_or]
  by_cases ib : infI b
  · rw [if_pos (.inr (.inl ib)), decide_eq_true ib, decide_eq_false (inf_not_zer ib), Bool.true_and, Bool.false_and, Bool.or_false]
    unfold infSumI
    rw [if_neg (fun z => z.1 ib)]
    by_cases zc : zerI c
    · rw [if_pos (.inr zc), decide_eq_true zc]
      rfl
    · rw [if_neg (fun z => z.elim (inf_not_zer ib) zc), decide_eq_false zc, if_neg Bool.false_ne_true, Bool.true_or, if_pos rfl, sgn_is hb hc]
      by_cases ia : infI a
      · have ea := inf_self ha ia
        rw [decide_eq_true ia, Bool.true_and]
        generalize (Sv05.minus b != Sv05.minus c) = s at *
        generalize Sv05.minus a = m at *
        rw [ea]
        cases m <;> cases s <;> first | rfl | exact (if_pos ⟨by decide, by decide⟩)
      · rw [if_neg (fun z => ia z.1), decide_eq_false ia, Bool.false_and, if_neg Bool.false_ne_true]
        exact (single_inf _).symm
  by_cases ic : infI c
  · rw [if_pos (.inr (.inr ic)), decide_eq_true ic, decide_eq_false ib, Bool.false_and, Bool.false_or, Bool.and_true]
    unfold infSumI
    rw [if_neg (fun z => z.2 ic)]
    by_cases zb : zerI b
    · rw [if_pos (.inl zb), decide_eq_true zb]
      rfl
    · rw [if_neg (fun z => z.elim zb (inf_not_zer ic)), decide_eq_false zb, if_neg Bool.false_ne_true, Bool.false_or, if_pos rfl, sgn_is hb hc]
      by_cases ia : infI a
      · have ea := inf_self ha ia
        rw [decide_eq_true ia, Bool.true_and]
        generalize (Sv05.minus b != Sv05.minus c) = s at *
        generalize Sv05.minus a = m at *
        rw [ea]
        cases m <;> cases s <;> first | rfl | exact (if_pos ⟨by decide, by decide⟩)
      · rw [if_neg (fun z => ia z.1), decide_eq_false ia, Bool.false_and, if_neg Bool.false_ne_true]
        exact (single_inf _).symm
  rw [decide_eq_false ib, decide_eq_false ic, Bool.false_and, Bool.and_false, Bool.or_false, if_neg Bool.false_ne_true, if_neg Bool.false_ne_true]
  by_cases ia : infI a
  · rw [if_pos (.inl ia), decide_eq_true ia, if_pos rfl]
    unfold infSumI
    rw [if_pos ⟨ib, ic⟩]
    show (a : Int) = ((Sv05.single (Sv05.minus a) 0x7F800000 : Nat) : Int)
    rw [single_inf]
    exact inf_self ha ia
  rw [if_neg (fun z => z.elim ia fun z => z.elim ib ic), decide_eq_false ia, if_neg Bool.false_ne_true, tot_is ha hb hc]
  generalize Sv05.value a * ((2 ^ 149 : Nat) : Int) + Sv05.value b * Sv05.value c = v
  by_cases v0 : v = 0
  · rw [if_pos v0, if_pos v0]
    show _ = ((Sv05.single _ 0 : Nat) : Int)
    rw [single_zero, sgn_is hb hc, minB ha]
    generalize (Sv05.minus b != Sv05.minus c) = s
    by_cases d : 2147483648 ≤ a
    · rw [decide_eq_true d, Bool.true_and, show (a : Int) / 2147483648 = 1 by omega, Int.one_mul]
    · rw [decide_eq_false d, Bool.false_and, show (a : Int) / 2147483648 = 0 by omega, Int.zero_mul, Int.mul_zero]
      rfl
  · rw [if_neg v0, if_neg v0]
    exact rnd_is v
end Sp
namespace Sp
/-! ### steps: their answers' range; lanes; rows -/
def Ok (o : Option Nat) : Prop := ∀ y, o = some y → y < 4294967296
theorem ok_none : Ok none := fun _ e => by cases e
theorem ok_some {y : Nat} (h : y < 4294967296) : Ok (some y) := fun _ e => by cases e; exact h
theorem single_lt (s : Bool) {m : Nat} (h : m ≤ 2139095040) : Sv05.single s m < 4294967296 := by
  unfold Sv05.single
  split <;> omega
theorem rnd_within (t : Int) : 0 ≤ rndI t ∧ rndI t < 4294967296 := by
  unfold rndI
  split <;> split <;> omega
theorem step_ok (a b c : Nat) : Ok (Sv05.step a b c) := by
  unfold Sv05.step
  dsimp only
  split
  · exact ok_none
  split
  · split
    · exact ok_none
    · exact ok_some (single_lt _ (Nat.le_refl _))
  split
  · exact ok_some (single_lt _ (Nat.le_refl _))
  split
  · exact ok_some (single_lt _ (Nat.zero_le _))
  · have h := rnd_is (Sv05.value a * (2 ^ 149 : Nat) + Sv05.value b * Sv05.value c)
    have w := rnd_within (Sv05.value a * (2 ^ 149 : Nat) + Sv05.value b * Sv05.value c)
    refine ok_some ?_
    omega
theorem bind_ok {o : Option Nat} {f : Nat → Option Nat} (h : ∀ x, Ok (f x)) : Ok (o.bind f) := by
  cases o with
  | none => exact ok_none
  | some x => exact h x
theorem said_within {o : Option Nat} (h : Ok o) : -1 ≤ Sv05Neutral.said o ∧ Sv05Neutral.said o < 4294967296 := by
  cases o with
  | none => exact ⟨by decide, by decide⟩
  | some y =>
    have := h y rfl
    show -1 ≤ (y : Int) ∧ (y : Int) < 4294967296
    omega
theorem add_is {x p : Option Nat} {q : Nat} (hx : Ok x) (hp : Ok p) (hq : q < 4294967296) : addI (Sv05Neutral.said x) (Sv05Neutral.said p) q = Sv05Neutral.said (x.bind fun a => p.bind fun b => Sv05.step a b q) := by
  cases x with
  | none =>
    unfold addI
    exact if_pos (.inl (by decide))
  | some a =>
    cases p with
    | none =>
      unfold addI
      exact if_pos (.inr (.inl (by decide)))
    | some b => exact add_some (hx a rfl) (hp b rfl) hq
def tsI (x p q : Int) : Int := addI x (p * 65536) (q * 65536)
theorem ts_is {o : Option Nat} {p q : Int} (ho : Ok o) (hp : 0 ≤ p ∧ p < 65536) (hq : 0 ≤ q ∧ q < 65536) : tsI (Sv05Neutral.said o) p q = Sv05Neutral.said (o.bind fun x => Sv05.step x (Sv05.wide p.toNat) (Sv05.wide q.toNat)) := by
  have e1 : p * 65536 = Sv05Neutral.said (some (Sv05.wide p.toNat)) := by
    show _ = ((p.toNat % 65536 * 65536 : Nat) : Int)
    omega
  have e2 : q * 65536 = ((Sv05.wide q.toNat : Nat) : Int) := by
    show _ = ((q.toNat % 65536 * 65536 : Nat) : Int)
    omega
  unfold tsI
  rw [e1, e2, add_is ho (ok_some ?_) ?_]
  · rfl
  · show p.toNat % 65536 * 65536 < 4294967296
    omega
  · show q.toNat % 65536 * 65536 < 4294967296
    omega
def twI (x a b c d : Int) : Int := tsI (tsI x a b) c d
theorem tw_is {o : Option Nat} {a b c d : Int} (ho : Ok o) (ha : 0 ≤ a ∧ a < 65536) (hb : 0 ≤ b ∧ b < 65536) (hc : 0 ≤ c ∧ c < 65536) (hd : 0 ≤ d ∧ d < 65536) : twI (Sv05Neutral.said o) a b c d = Sv05Neutral.said (Sv05.twice o a.toNat b.toNat c.toNat d.toNat) := by
  unfold twI
  rw [ts_is ho ha hb, ts_is (bind_ok fun x => step_ok _ _ _) hc hd]
  rfl
theorem twice_ok (o : Option Nat) (a b c d : Nat) : Ok (Sv05.twice o a b c d) := by
  unfold Sv05.twice
  exact bind_ok fun x => step_ok _ _ _
/-! the call step -/
def stepI (s a b : Int) : Int := twI s (partI 16 a 1) (partI 16 b 1) (partI 16 a 0) (partI 16 b 0)
theorem part16 (x : Int) (i : Nat) : 0 ≤ partI 16 x i ∧ partI 16 x i < 65536 := partI_within 16 i x
theorem partN {x : Int} {i : Nat} (h : 0 ≤ x) : Sv05.part 16 x.toNat i = (partI 16 x i).toNat := by
  rw [← part_is h, Int.toNat_natCast]
theorem stepI_is {s a b : Int} (hs : 0 ≤ s ∧ s < 4294967296) (ha : 0 ≤ a) (hb : 0 ≤ b) : stepI s a b = Sv05Neutral.said (Sv05.twice (some s.toNat) (Sv05.part 16 a.toNat 1) (Sv05.part 16 b.toNat 1) (Sv05.part 16 a.toNat 0) (Sv05.part 16 b.toNat 0)) := by
  rw [partN ha, partN hb, partN ha, partN hb, ← tw_is (ok_some (by omega)) (part16 a 1) (part16 b 1) (part16 a 0) (part16 b 0)]
  unfold stepI
  rw [show Sv05Neutral.said (some s.toNat) = s from Int.toNat_of_nonneg hs.1]
theorem step_asked_iff {k : Int} {s a b : List Int} (h : PySv05.step_asked k s a b = true) : (0 ≤ k ∧ k < 65536) ∧ ((∀ x ∈ s, 0 ≤ x ∧ x < 4294967296) ∧ s.length ≤ 16) ∧ ((∀ x ∈ a, 0 ≤ x ∧ x < 4294967296) ∧ a.length ≤ 16) ∧ ((∀ x ∈ b, 0 ≤ x ∧ x < 4294967296) ∧ b.length ≤ 16) := by
  have h : (Sv05Neutral.below 65536 [k] && (Sv05Neutral.lanes s && (Sv05Neutral.lanes a && Sv05Neutral.lanes b))) = true := h
  rw [Bool.and_eq_true, Bool.and_eq_true, Bool.and_eq_true] at h
  exact ⟨below_iff h.1 k (by simp), lanes_iff h.2.1, lanes_iff h.2.2.1, lanes_iff h.2.2.2⟩
theorem step_all {k : Int} {s a b : List Int} (hk : 0 ≤ k) (hs : ∀ x ∈ s, 0 ≤ x ∧ x < 4294967296) (ha : ∀ x ∈ a, 0 ≤ x ∧ x < 4294967296) (hb : ∀ x ∈ b, 0 ≤ x ∧ x < 4294967296) :
    PySv05.step k s a b = (List.range 16).map fun j => if inKI k j then stepI (gi s j) (gi a j) (gi b j) else gi s j := by
  show ([] : List Int) ++ ((List.range 16).map fun j => if Sv05.inK k.toNat j = true then Sv05.twice (some (Sv05.at_ (Sv05Neutral.n s) j)) (Sv05.part 16 (Sv05.at_ (Sv05Neutral.n a) j) 1) (Sv05.part 16 (Sv05.at_ (Sv05Neutral.n b) j) 1) (Sv05.part 16 (Sv05.at_ (Sv05Neutral.n a) j) 0) (Sv05.part 16 (Sv05.at_ (Sv05Neutral.n b) j) 0) else some (Sv05.at_ (Sv05Neutral.n s) j)).map Sv05Neutral.said = _
  rw [List.nil_append, List.map_map]
  refine List.map_congr_left fun j _ => ?_
  have ws := gi_within (by decide) hs j
  have wa := gi_within (by decide) ha j
  have wb := gi_within (by decide) hb j
  show Sv05Neutral.said (if Sv05.inK k.toNat j = true then Sv05.twice (some (Sv05.at_ (Sv05Neutral.n s) j)) (Sv05.part 16 (Sv05.at_ (Sv05Neutral.n a) j) 1) (Sv05.part 16 (Sv05.at_ (Sv05Neutral.n b) j) 1) (Sv05.part 16 (Sv05.at_ (Sv05Neutral.n a) j) 0) (Sv05.part 16 (Sv05.at_ (Sv05Neutral.n b) j) 0) else some (Sv05.at_ (Sv05Neutral.n s) j)) = _
  rw [at_all, at_all, at_all]
  by_cases c : inKI k j
  · rw [if_pos c, if_pos ((inK_iff hk).mpr c)]
    exact (stepI_is ws wa.1 wb.1).symm
  · rw [if_neg c, if_neg (fun z => c ((inK_iff hk).mp z))]
    exact Int.toNat_of_nonneg ws.1
/-! what a number may be, in the program: a single or -1 -/
def SgI (x : Int) : Prop := -1 ≤ x ∧ x < 4294967296
theorem size_within {x : Int} : 0 ≤ sizeI x ∧ sizeI x < 2 ^ 280 := by
  unfold sizeI
  have h1 : (x % 2147483648 / 8388608 - 1).toNat ≤ 254 := by omega
  generalize hk : (x % 2147483648 / 8388608 - 1).toNat = k at *
  have h2 : (0 : Int) ≤ 8388608 + x % 2147483648 % 8388608 ∧ 8388608 + x % 2147483648 % 8388608 ≤ 16777216 := by omega
  generalize 8388608 + x % 2147483648 % 8388608 = m at *
  obtain ⟨m, rfl⟩ : ∃ n : Nat, m = (n : Int) := ⟨m.toNat, by omega⟩
  have e : ((2 : Int) ^ k) = ((2 ^ k : Nat) : Int) := by rw [Int.natCast_pow]; rfl
  rw [e, ← Int.natCast_mul]
  have l : m * 2 ^ k ≤ 16777216 * 2 ^ 254 := Nat.mul_le_mul (by omega) (Nat.pow_le_pow_right (by decide) h1)
  refine ⟨Int.natCast_nonneg _, Int.lt_of_le_of_lt (Int.ofNat_le.mpr l) (by decide +kernel)⟩
theorem exact_within (x : Int) : (exactI x).natAbs < 2 ^ 280 := by
  have h := size_within (x := x)
  have e : ((2 : Int) ^ 280) = ((2 ^ 280 : Nat) : Int) := by decide +kernel
  rw [e] at h
  unfold exactI
  generalize 2 ^ 280 = N at *
  split
  · show 0 < N
    omega
  · split <;> omega
theorem mul_abs {a b : Int} (ha : a.natAbs < 2 ^ 280) (hb : b.natAbs < 2 ^ 280) : (a * b).natAbs < 2 ^ 560 := by
  rw [Int.natAbs_mul, show (560 : Nat) = 280 + 280 from rfl, Nat.pow_add]
  exact Nat.mul_lt_mul'' ha hb
theorem tot_within (x p q : Int) : (totI x p q).natAbs < 2 ^ 561 := by
  unfold totI
  have h1 := mul_abs (exact_within x) (exact_within 1065353216)
  have h2 := mul_abs (exact_within p) (exact_within q)
  have h3 := Int.natAbs_add_le (exactI x * exactI 1065353216) (exactI p * exactI q)
  rw [show (2 : Nat) ^ 561 = 2 ^ 560 + 2 ^ 560 by rw [show (561 : Nat) = 560 + 1 from rfl, Nat.pow_succ, Nat.mul_two]]
  generalize 2 ^ 560 = N at *
  omega
theorem tot_log {t : Int} (h : t.natAbs < 2 ^ 561) : t.natAbs.log2 < 561 := by
  by_cases e : t.natAbs = 0
  · rw [e]
    decide
  · exact (Nat.log2_lt e).mpr h
/-! rows -/
theorem at_eq {l m : List Int} (h : ∀ i, gi l i = gi m i) (i : Nat) : Sv05.at_ (Sv05Neutral.n l) i = Sv05.at_ (Sv05Neutral.n m) i := by
  rw [at_all, at_all, h]
def laneO (x w : List Int) (j k : Nat) : Option Nat := Sv05.lane (Sv05Neutral.n x) (Sv05Neutral.n w) j k
theorem laneO_congr {x w x' w' : List Int} (hx : ∀ i, gi x i = gi x' i) (hw : ∀ i, gi w i = gi w' i) (j : Nat) : ∀ k, laneO x w j k = laneO x' w' j k
  | 0 => rfl
  | k + 1 => by
    show Sv05.twice (laneO x w j k) _ _ _ _ = Sv05.twice (laneO x' w' j k) _ _ _ _
    rw [laneO_congr hx hw j k, at_eq hx, at_eq hx, at_eq hw, at_eq hw]
theorem laneO_ok (x w : List Int) (j : Nat) : ∀ k, Ok (laneO x w j k)
  | 0 => ok_some (by decide)
  | k + 1 => twice_ok _ _ _ _ _
theorem laneO_step {x w : List Int} (hx : ∀ a ∈ x, 0 ≤ a ∧ a < 65536) (hw : ∀ a ∈ w, 0 ≤ a ∧ a < 65536) (j k : Nat) : twI (Sv05Neutral.said (laneO x w j k)) (gi x (32 * k + 2 * j + 1)) (gi w (32 * k + 2 * j + 1)) (gi x (32 * k + 2 * j)) (gi w (32 * k + 2 * j)) = Sv05Neutral.said (laneO x w j (k + 1)) := by
  rw [tw_is (laneO_ok _ _ _ _) (gi_within (by decide) hx _) (gi_within (by decide) hw _) (gi_within (by decide) hx _) (gi_within (by decide) hw _), ← at_all, ← at_all, ← at_all, ← at_all]
  rfl
/-- the sixteen sums when i pairs have been taken -/
def sumsAt (x w : List Int) (i : Nat) : List Int := (List.range 16).map fun j => Sv05Neutral.said (laneO x w j ((i + 15 - j) / 16))
theorem range_at' {f : Nat → Int} {n j : Nat} (h : j < n) : ((List.range n).map f)[j]? = some (f j) := by
  rw [List.getElem?_map, List.getElem?_range h]
  rfl
theorem gi_range' {f : Nat → Int} {n j : Nat} (h : j < n) : gi ((List.range n).map f) j = f j := by
  unfold gi
  rw [List.getD_eq_getElem?_getD, range_at' h]
  rfl
theorem sumsAt_len {x w : List Int} {i : Nat} : (sumsAt x w i).length = 16 := by
  unfold sumsAt
  rw [List.length_map, List.length_range]
theorem sumsAt_zero {x w : List Int} : sumsAt x w 0 = List.replicate 16 0 := rfl
theorem sumsAt_at {x w : List Int} (i : Nat) : gi (sumsAt x w i) (i % 16) = Sv05Neutral.said (laneO x w (i % 16) (i / 16)) := by
  unfold sumsAt
  rw [gi_range' (by omega), show (i + 15 - i % 16) / 16 = i / 16 by omega]
theorem sumsAt_set {x w : List Int} (hx : ∀ a ∈ x, 0 ≤ a ∧ a < 65536) (hw : ∀ a ∈ w, 0 ≤ a ∧ a < 65536) (i : Nat) :
    (sumsAt x w i).set (i % 16) (twI (gi (sumsAt x w i) (i % 16)) (gi x (2 * i + 1)) (gi w (2 * i + 1)) (gi x (2 * i)) (gi w (2 * i))) = sumsAt x w (i + 1) := by
  have e := laneO_step hx hw (i % 16) (i / 16)
  rw [show 32 * (i / 16) + 2 * (i % 16) = 2 * i by omega] at e
  rw [sumsAt_at, e]
  refine List.ext_getElem? fun j => ?_
  by_cases h16 : j < 16
  · by_cases c : i % 16 = j
    · rw [c, List.getElem?_set_self (by rw [sumsAt_len]; exact h16)]
      unfold sumsAt
      rw [range_at' h16, show (i + 1 + 15 - j) / 16 = i / 16 + 1 by omega]
    · rw [List.getElem?_set_ne c]
      unfold sumsAt
      rw [range_at' h16, range_at' h16, show (i + 1 + 15 - j) / 16 = (i + 15 - j) / 16 by omega]
  · rw [List.getElem?_eq_none (by rw [List.length_set, sumsAt_len]; omega), List.getElem?_eq_none (by rw [sumsAt_len]; omega)]
theorem sumsAt_end {x w : List Int} (B : Nat) : sumsAt x w (16 * B) = (List.range 16).map fun j => Sv05Neutral.said (laneO x w j B) := by
  unfold sumsAt
  refine List.map_congr_left fun j hj => ?_
  have hj := List.mem_range.mp hj
  rw [show (16 * B + 15 - j) / 16 = B by omega]
/-! halves -/
def foldTo (f : Nat → Option Nat) : Nat → Nat → Option Nat
  | 0 => f
  | t + 1 => Sv05.folded (foldTo f t) (2 ^ (3 - t))
theorem foldTo_ok {f : Nat → Option Nat} (h : ∀ j, Ok (f j)) : ∀ t j, Ok (foldTo f t j)
  | 0, j => h j
  | t + 1, j => bind_ok fun a => bind_ok fun b => step_ok _ _ _
theorem foldTo_step {f : Nat → Option Nat} (h : ∀ j, Ok (f j)) (t j : Nat) : addI (Sv05Neutral.said (foldTo f t j)) (Sv05Neutral.said (foldTo f t (j + 2 ^ (3 - t)))) 1065353216 = Sv05Neutral.said (foldTo f (t + 1) j) := by
  exact add_is (q := 1065353216) (foldTo_ok h t j) (foldTo_ok h t _) (by decide)
/-! padded with 0 -/
def padI (l : List Int) : List Int := l ++ List.replicate ((-((l.length : Nat) : Int)) % 32).toNat 0
theorem gi_app0 (l : List Int) (k i : Nat) : gi (l ++ List.replicate k 0) i = gi l i := by
  unfold gi
  rw [List.getD_eq_getElem?_getD, List.getD_eq_getElem?_getD]
  by_cases c : i < l.length
  · rw [List.getElem?_append_left c]
  · rw [List.getElem?_append_right (by omega), List.getElem?_eq_none (l := l) (by omega), List.getElem?_replicate]
    split <;> rfl
theorem gi_pad (l : List Int) (i : Nat) : gi (padI l) i = gi l i := gi_app0 l _ i
theorem pad_len (l : List Int) : (padI l).length = 32 * ((l.length + 31) / 32) := by
  unfold padI
  rw [List.length_append, List.length_replicate]
  omega
theorem pad_within {l : List Int} (h : ∀ a ∈ l, 0 ≤ a ∧ a < 65536) : ∀ a ∈ padI l, 0 ≤ a ∧ a < 65536 := by
  intro a ha
  unfold padI at ha
  rcases List.mem_append.mp ha with z | z
  · exact h a z
  · rw [(List.mem_replicate.mp z).2]
    exact ⟨by decide, by decide⟩
/-- a row's number -/
def rowI (x w : List Int) (n i : Nat) : Int := Sv05Neutral.said (foldTo (fun j => laneO x ((w.drop (n * i)).take n) j ((n + 31) / 32)) 4 0)
theorem floats_no {rows n : Int} {x w : List Int} (h0 : 0 ≤ rows) (h1 : 0 ≤ n) (h : 1024 < rows ∨ 65536 < n) : PySv05.floats rows n x w = [-1] := by
  show (let y := Sv05.does (.floats (Sv05Neutral.n x) (Sv05Neutral.n w) rows.toNat n.toNat); (match y.code with | some z => [z] | none => []) ++ y.l.map Sv05Neutral.said) = [-1]
  unfold Sv05.does
  have e : ¬ Sv05.isSize rows.toNat n.toNat = true := fun q => (size_iff h0 h1).mp q h
  simp only [if_neg e]
  rfl
theorem weights_is (w : List Int) (n i : Nat) : Sv05.weights (Sv05Neutral.n w) n i = Sv05Neutral.n ((w.drop (n * i)).take n) := by
  unfold Sv05.weights Sv05Neutral.n
  rw [List.map_take, List.map_drop]
theorem floats_yes {rows n : Int} {x w : List Int} (h0 : 0 ≤ rows) (h1 : 0 ≤ n) (h : ¬ (1024 < rows ∨ 65536 < n)) : PySv05.floats rows n x w = 0 :: (List.range rows.toNat).map (rowI x w n.toNat) := by
  show (let y := Sv05.does (.floats (Sv05Neutral.n x) (Sv05Neutral.n w) rows.toNat n.toNat); (match y.code with | some z => [z] | none => []) ++ y.l.map Sv05Neutral.said) = _
  unfold Sv05.does
  have e : Sv05.isSize rows.toNat n.toNat = true := (size_iff h0 h1).mpr h
  simp only [if_pos e]
  rw [List.map_map]
  refine congrArg (List.cons 0) (List.map_congr_left fun i _ => ?_)
  show Sv05Neutral.said (Sv05.row (Sv05Neutral.n x) (Sv05.weights (Sv05Neutral.n w) n.toNat i) n.toNat) = _
  rw [weights_is]
  rfl
end Sp

namespace Sp
open PySem PySem.Spec PyProof.Rows L2
open PySem.W (Codec)
/-! ### the text by places -/
def top (i : Nat) : Stmt := PySem.Challenge.pw_smallproducts_s07_floats.main.body.getD i (.Pass ⟨0, 0, 0, 0⟩)
abbrev s_is_refused : Stmt := top 12
abbrev s_is_nan : Stmt := top 13
abbrev s_is_infinite : Stmt := top 14
abbrev s_is_zero : Stmt := top 15
abbrev s_nearest_multiple : Stmt := top 16
abbrev s_sign_of_product : Stmt := top 17
abbrev s_exact : Stmt := top 18
abbrev s_rounded_single : Stmt := top 19
abbrev s_infinite_sum : Stmt := top 20
abbrev s_add_product : Stmt := top 21
abbrev s_take_step : Stmt := top 22
abbrev s_take_two_steps : Stmt := top 23
abbrev s_whole_blocks : Stmt := top 24
abbrev s_sums_of_blocks : Stmt := top 25
abbrev s_folded : Stmt := top 26
abbrev s_floats : Stmt := top 27
/-- where each def stands -/
structure Ad where
  f_is_refused : Addr
  d_is_refused : FuncData
  f_is_nan : Addr
  d_is_nan : FuncData
  f_is_infinite : Addr
  d_is_infinite : FuncData
  f_is_zero : Addr
  d_is_zero : FuncData
  f_nearest_multiple : Addr
  d_nearest_multiple : FuncData
  f_sign_of_product : Addr
  d_sign_of_product : FuncData
  f_exact : Addr
  d_exact : FuncData
  f_rounded_single : Addr
  d_rounded_single : FuncData
  f_infinite_sum : Addr
  d_infinite_sum : FuncData
  f_add_product : Addr
  d_add_product : FuncData
  f_take_step : Addr
  d_take_step : FuncData
  f_take_two_steps : Addr
  d_take_two_steps : FuncData
  f_whole_blocks : Addr
  d_whole_blocks : FuncData
  f_sums_of_blocks : Addr
  d_sums_of_blocks : FuncData
  f_folded : Addr
  d_folded : FuncData
  f_floats : Addr
  d_floats : FuncData
/-- what the top has written -/
structure Txt (K : PySem.W.Frag) (mg : Str → Option Value) (A : Ad) : Prop where
  F_is_refused : Fun K "is_refused" "is_refused" s_is_refused A.f_is_refused A.d_is_refused
  b_is_refused : Binds K A.d_is_refused ["rows", "n"] []
  g_is_refused : mg "is_refused" = some (.ref A.f_is_refused)
  F_is_nan : Fun K "is_nan" "is_nan" s_is_nan A.f_is_nan A.d_is_nan
  b_is_nan : Binds K A.d_is_nan ["single"] []
  g_is_nan : mg "is_nan" = some (.ref A.f_is_nan)
  F_is_infinite : Fun K "is_infinite" "is_infinite" s_is_infinite A.f_is_infinite A.d_is_infinite
  b_is_infinite : Binds K A.d_is_infinite ["single"] []
  g_is_infinite : mg "is_infinite" = some (.ref A.f_is_infinite)
  F_is_zero : Fun K "is_zero" "is_zero" s_is_zero A.f_is_zero A.d_is_zero
  b_is_zero : Binds K A.d_is_zero ["single"] []
  g_is_zero : mg "is_zero" = some (.ref A.f_is_zero)
  F_nearest_multiple : Fun K "nearest_multiple" "nearest_multiple" s_nearest_multiple A.f_nearest_multiple A.d_nearest_multiple
  b_nearest_multiple : Binds K A.d_nearest_multiple ["number", "unit"] []
  g_nearest_multiple : mg "nearest_multiple" = some (.ref A.f_nearest_multiple)
  F_sign_of_product : Fun K "sign_of_product" "sign_of_product" s_sign_of_product A.f_sign_of_product A.d_sign_of_product
  b_sign_of_product : Binds K A.d_sign_of_product ["p", "q"] []
  g_sign_of_product : mg "sign_of_product" = some (.ref A.f_sign_of_product)
  F_exact : Fun K "exact" "exact" s_exact A.f_exact A.d_exact
  b_exact : Binds K A.d_exact ["single"] []
  g_exact : mg "exact" = some (.ref A.f_exact)
  F_rounded_single : Fun K "rounded_single" "rounded_single" s_rounded_single A.f_rounded_single A.d_rounded_single
  b_rounded_single : Binds K A.d_rounded_single ["total"] []
  g_rounded_single : mg "rounded_single" = some (.ref A.f_rounded_single)
  F_infinite_sum : Fun K "infinite_sum" "infinite_sum" s_infinite_sum A.f_infinite_sum A.d_infinite_sum
  b_infinite_sum : Binds K A.d_infinite_sum ["single", "p", "q"] []
  g_infinite_sum : mg "infinite_sum" = some (.ref A.f_infinite_sum)
  F_add_product : Fun K "add_product" "add_product" s_add_product A.f_add_product A.d_add_product
  b_add_product : Binds K A.d_add_product ["single", "p", "q"] []
  g_add_product : mg "add_product" = some (.ref A.f_add_product)
  F_take_step : Fun K "take_step" "take_step" s_take_step A.f_take_step A.d_take_step
  b_take_step : Binds K A.d_take_step ["single", "p", "q"] []
  g_take_step : mg "take_step" = some (.ref A.f_take_step)
  F_take_two_steps : Fun K "take_two_steps" "take_two_steps" s_take_two_steps A.f_take_two_steps A.d_take_two_steps
  b_take_two_steps : Binds K A.d_take_two_steps ["single", "x", "w", "at"] []
  g_take_two_steps : mg "take_two_steps" = some (.ref A.f_take_two_steps)
  F_whole_blocks : Fun K "whole_blocks" "whole_blocks" s_whole_blocks A.f_whole_blocks A.d_whole_blocks
  b_whole_blocks : Binds K A.d_whole_blocks ["numbers"] []
  g_whole_blocks : mg "whole_blocks" = some (.ref A.f_whole_blocks)
  F_sums_of_blocks : Fun K "sums_of_blocks" "sums_of_blocks" s_sums_of_blocks A.f_sums_of_blocks A.d_sums_of_blocks
  b_sums_of_blocks : Binds K A.d_sums_of_blocks ["x", "w"] []
  g_sums_of_blocks : mg "sums_of_blocks" = some (.ref A.f_sums_of_blocks)
  F_folded : Fun K "folded" "folded" s_folded A.f_folded A.d_folded
  b_folded : Binds K A.d_folded ["sums"] []
  g_folded : mg "folded" = some (.ref A.f_folded)
  F_floats : Fun K "floats" "floats" s_floats A.f_floats A.d_floats
  b_floats : Binds K A.d_floats ["rows", "n", "x", "w"] []
  g_floats : mg "floats" = some (.ref A.f_floats)
  c_MOST_ROWS : ∃ t, mg "MOST_ROWS" = some (.int (1024) t)
  c_MOST_NUMBERS : ∃ t, mg "MOST_NUMBERS" = some (.int (65536) t)
  c_LANES : ∃ t, mg "LANES" = some (.int (16) t)
  c_BLOCK : ∃ t, mg "BLOCK" = some (.int (32) t)
  c_SPAN_16 : ∃ t, mg "SPAN_16" = some (.int (65536) t)
  c_SIGN : ∃ t, mg "SIGN" = some (.int (2147483648) t)
  c_LEAST_NORMAL : ∃ t, mg "LEAST_NORMAL" = some (.int (8388608) t)
  c_ONE : ∃ t, mg "ONE" = some (.int (1065353216) t)
  c_INFINITY : ∃ t, mg "INFINITY" = some (.int (2139095040) t)
  c_SINGLE_BITS : ∃ t, mg "SINGLE_BITS" = some (.int (24) t)
  c_NAN : ∃ t, mg "NAN" = some (.int (-1) t)
  z_abs : mg "abs" = none
  z_len : mg "len" = none
  z_max : mg "max" = none
  z_min : mg "min" = none
  z_range : mg "range" = none
section
variable {P : Program} {w : World} {K : PySem.W.Frag} {mg : Str → Option Value} {base : Heap} {A : Ad}
/-! ### helpers -/
theorem pe_cint {X : Cx} {x : Str} {i : Int} {t : _} {pos : Pos} (hg : Gl X x) (hm : X.mg x = some (.int i t)) (hd : (x == ("__debug__" : Str)) = false := by decide) : PE X (.Name x pos) (tC (.int i)) := pe_glob hg hm ⟨_, rfl⟩ hd
theorem same_upd {H : Hp} {p : Addr} {o : HO} (h : H p = none) : Same H (upd H p o) := fun b x e => by
  rw [upd_ne (ne_of_none e h)]
  exact e
/-- a store to an address that was free at the start -/
theorem same_store {H H1 : Hp} {p : Addr} {o : HO} (h : H p = none) (s : Same H H1) : Same H (upd H1 p o) := fun b x e => by
  rw [upd_ne (ne_of_none e h)]
  exact s b x e
theorem at_map {l : List Int} {j : Nat} (h : j < l.length) : (l.map V.int)[j]? = some (.int (gi l j)) := by
  rw [List.getElem?_map, gi_get h]
  rfl
theorem map_at {l : List Int} {j : Nat} {y : V} (h : (l.map V.int)[j]? = some y) : ∃ z, l[j]? = some z ∧ y = .int z := by
  rw [List.getElem?_map] at h
  cases e : l[j]? with
  | none =>
    rw [e] at h
    cases h
  | some z =>
    rw [e] at h
    exact ⟨z, rfl, (Option.some.inj h).symm⟩
/-! ### is_refused -/
def spRef : Sp := fun vs H Q _ => ∃ r n : Int, vs = [.int r, .int n] ∧ Q (.bl (decide (1024 < r ∨ 65536 < n))) H
theorem sc_is_refused : FnScope ["rows", "n"] ["rows", "n"] (defScope s_is_refused) := ⟨rfl, rfl, rfl, by decide +kernel, rfl, by decide +kernel, by decide +kernel⟩
theorem ok_is_refused (T : Txt K mg A) : FnOk P w K mg base CX0 1 A.f_is_refused A.d_is_refused ["rows", "n"] spRef := by
  obtain ⟨t1, c1⟩ := T.c_MOST_ROWS
  obtain ⟨t2, c2⟩ := T.c_MOST_NUMBERS
  refine T.F_is_refused.ok sc_is_refused (fun vs H Q E h => ?_) (fun cdv A' outer s H vs Q E hr h => ?_)
  · obtain ⟨r, n, rfl, _⟩ := h
    rfl
  · obtain ⟨r, n, rfl, q⟩ := h
    refine ⟨_, pss_one (ps_ret (pe_or (pe_cmpR op_gt (pv 0) (pe_cint rfl c1) (nomark _)) (pe_one (pe_cmpR op_gt (pv 1) (pe_cint rfl c2) (nomark _))))), ?_⟩
    refine ⟨_, rfl, _, _, rfl, rfl, _, rfl, ite2 (fun e => ?_) (fun e => ?_)⟩
    · rw [decide_eq_true (Or.inl (of_decide_eq_true e))] at q
      exact q
    · refine ⟨_, rfl, _, _, rfl, rfl, ?_⟩
      have e1 : ¬ (1024 : Int) < r := fun z => e (decide_eq_true z)
      have e2 : decide (1024 < r ∨ 65536 < n) = decide ((65536 : Int) < n) := by
        rw [decide_eq_decide]
        exact ⟨fun z => z.resolve_left e1, Or.inr⟩
      rw [e2] at q
      exact q

/-! ### lists of any place: one behind the other -/
def rCatL (K : PySem.W.Frag) : R2 := fun x y H Q => ∃ l b xs zs, x = .ref l ∧ y = .ref b ∧ SqL K H l xs ∧ SqL K H b zs ∧ xs.length + zs.length ≤ sizeLine ∧ ∀ p, H p = none → Q (.ref p) (upd H p (.lst (xs ++ zs)))
theorem op_catL {X : Cx} : OpR X (binaryOp .Add) (rCatL X.K) := by
  intro pins s σ H x y v u Q I rx ry h
  obtain ⟨l, b, xs, zs, rfl, rfl, hH, hB, hz, q⟩ := h
  cases rx
  cases ry
  obtain ⟨its, r, ⟨⟨cls, dd, data, sl⟩, n, e, hc, hd, hs⟩, _⟩ := I.list hH
  obtain ⟨its2, r2, ⟨⟨cls2, dd2, data2, sl2⟩, n2, e2, hc2, hd2, hs2⟩, _⟩ := I.list hB
  simp only at hc hd hs hc2 hd2 hs2
  subst hc hd hs hc2 hd2 hs2
  have hl := r.length
  have hl2 := r2.length
  have ea : its.toArray ++ its2.toArray = (its ++ its2).toArray := by simp
  refine concat_meets ⟨_, e, rfl⟩ ⟨_, e2, rfl⟩ noFill_list_add seq_list_add PySem.F.slot_list_add PySem.F.entry_list_add (PySem.F.args_list_add_2 _ _) (list_addW l b its.toArray its2.toArray n n2 none none sl sl2 (by rw [List.size_toArray, List.size_toArray]; omega)) ⟨e, e2, ?_⟩
  rw [ea]
  exact ⟨.ref _, _, I.lnew (t' := s.toks) (r.append r2) (by rw [List.length_append]; omega), rfl, q _ I.fresh⟩

/-! ### lanes -/
theorem gi_out {l : List Int} {j : Nat} (h : l.length ≤ j) : gi l j = 0 := by
  unfold gi
  rw [List.getD_eq_getElem?_getD, List.getElem?_eq_none h]
  rfl
theorem range_at {f : Nat → Int} {n j : Nat} (h : j < n) : ((List.range n).map f)[j]? = some (f j) := by
  rw [List.getElem?_map, List.getElem?_range h]
  rfl
theorem gi_range {f : Nat → Int} {n j : Nat} (h : j < n) : gi ((List.range n).map f) j = f j := by
  unfold gi
  rw [List.getD_eq_getElem?_getD, range_at h]
  rfl
theorem ixN_nat {n j : Nat} (h : j < n) : ixN n (j : Int) = some j := by
  unfold ixN
  rw [if_pos (by omega), if_pos (by omega), Int.toNat_natCast]
theorem dec_int (a b : Int) : decide (V.int a = V.int b) = decide (a = b) := by
  rw [decide_eq_decide]
  exact ⟨V.int.inj, congrArg V.int⟩

/-! ### is_nan -/
def spNan : Sp := fun vs H Q _ => ∃ x : Int, vs = [.int x] ∧ Q (.bl (decide (nanI x))) H
theorem sc_is_nan : FnScope ["single"] ["single"] (defScope s_is_nan) := ⟨rfl, rfl, rfl, by decide +kernel, rfl, by decide +kernel, by decide +kernel⟩
theorem ok_is_nan (T : Txt K mg A) : FnOk P w K mg base CX0 1 A.f_is_nan A.d_is_nan ["single"] spNan := by
  obtain ⟨t1, c1⟩ := T.c_SIGN
  obtain ⟨t2, c2⟩ := T.c_INFINITY
  refine T.F_is_nan.ok sc_is_nan (fun vs H Q E h => ?_) (fun cdv A' outer s H vs Q E hr h => ?_)
  · obtain ⟨x, rfl, _⟩ := h
    rfl
  · obtain ⟨x, rfl, q⟩ := h
    refine ⟨_, pss_one (ps_ret (pe_cmpR op_gt (pe_op op_mod (pv 0) (pe_cint rfl c1)) (pe_cint rfl c2) (nomark _))), ?_⟩
    exact ⟨_, rfl, _, _, rfl, rfl, (by show (0 : Int) < 2147483648; decide), _, _, rfl, rfl, q⟩
/-! ### is_infinite -/
def spInf : Sp := fun vs H Q _ => ∃ x : Int, vs = [.int x] ∧ Q (.bl (decide (infI x))) H
theorem sc_is_infinite : FnScope ["single"] ["single"] (defScope s_is_infinite) := ⟨rfl, rfl, rfl, by decide +kernel, rfl, by decide +kernel, by decide +kernel⟩
theorem ok_is_infinite (T : Txt K mg A) : FnOk P w K mg base CX0 1 A.f_is_infinite A.d_is_infinite ["single"] spInf := by
  obtain ⟨t1, c1⟩ := T.c_SIGN
  obtain ⟨t2, c2⟩ := T.c_INFINITY
  refine T.F_is_infinite.ok sc_is_infinite (fun vs H Q E h => ?_) (fun cdv A' outer s H vs Q E hr h => ?_)
  · obtain ⟨x, rfl, _⟩ := h
    rfl
  · obtain ⟨x, rfl, q⟩ := h
    refine ⟨_, pss_one (ps_ret (pe_cmpR op_eq (pe_op op_mod (pv 0) (pe_cint rfl c1)) (pe_cint rfl c2) (nomark _))), ?_⟩
    refine ⟨_, rfl, _, _, rfl, rfl, (by show (0 : Int) < 2147483648; decide), rfl, ?_⟩
    show Q (.bl (decide (V.int (x % 2147483648) = V.int 2139095040))) H
    rw [dec_int]
    exact q
/-! ### is_zero -/
def spZer : Sp := fun vs H Q _ => ∃ x : Int, vs = [.int x] ∧ Q (.bl (decide (zerI x))) H
theorem sc_is_zero : FnScope ["single"] ["single"] (defScope s_is_zero) := ⟨rfl, rfl, rfl, by decide +kernel, rfl, by decide +kernel, by decide +kernel⟩
theorem ok_is_zero (T : Txt K mg A) : FnOk P w K mg base CX0 1 A.f_is_zero A.d_is_zero ["single"] spZer := by
  obtain ⟨t1, c1⟩ := T.c_SIGN
  obtain ⟨t2, c2⟩ := T.c_LEAST_NORMAL
  refine T.F_is_zero.ok sc_is_zero (fun vs H Q E h => ?_) (fun cdv A' outer s H vs Q E hr h => ?_)
  · obtain ⟨x, rfl, _⟩ := h
    rfl
  · obtain ⟨x, rfl, q⟩ := h
    refine ⟨_, pss_one (ps_ret (pe_cmpR op_lt (pe_op op_mod (pv 0) (pe_cint rfl c1)) (pe_cint rfl c2) (nomark _))), ?_⟩
    exact ⟨_, rfl, _, _, rfl, rfl, (by show (0 : Int) < 2147483648; decide), _, _, rfl, rfl, q⟩
/-! ### nearest_multiple -/
def spNear : Sp := fun vs H Q _ => ∃ v u : Int, vs = [.int v, .int u] ∧ 0 < u ∧ u.natAbs.log2 < 9000 ∧ Q (.int (nearI v u)) H
theorem sc_nearest_multiple : FnScope ["number", "unit", "count", "rest"] ["number", "unit"] (defScope s_nearest_multiple) := ⟨rfl, rfl, rfl, by decide +kernel, rfl, by decide +kernel, by decide +kernel⟩
theorem ok_nearest_multiple (T : Txt K mg A) : FnOk P w K mg base CX0 1 A.f_nearest_multiple A.d_nearest_multiple ["number", "unit"] spNear := by
  refine T.F_nearest_multiple.ok sc_nearest_multiple (fun vs H Q E h => ?_) (fun cdv A' outer s H vs Q E hr h => ?_)
  · obtain ⟨v, u, rfl, _⟩ := h
    rfl
  · obtain ⟨v, u, rfl, h0, h9, q⟩ := h
    refine ⟨_, pss_cons (ps_set (i := 2) sc_nearest_multiple.nd rfl (.inl rfl) (pe_op op_fdivW (pv 0) (pv 1)))
      (pss_cons (ps_set (i := 3) sc_nearest_multiple.nd rfl (.inl rfl) (pe_op op_mul pe_int (pe_op op_mod (pv 0) (pv 1))))
      (pss_cons (ps_if (PW.pt (pw_or (pt_cmpR op_gt (pv 3) (pv 1) (nomark _)) (pw_or1 (PW.pt (pw_and (pt_cmpR op_eq (pv 3) (pv 1) (nomark _)) (pw_and1 (pt_cmpR op_eq (pe_op op_mod (pv 2) pe_int) pe_int (nomark _))))))))
        (pss_one (ps_ret (pe_op op_add (pv 2) pe_int))) pss_nil)
      (pss_one (ps_ret (pv 2))))), ?_⟩
    refine ⟨_, rfl, _, rfl, _, _, rfl, rfl, ⟨h0, h9⟩, ?_⟩
    refine ⟨_, rfl, _, rfl, _, _, rfl, rfl, h0, _, _, rfl, rfl, .inl ⟨by decide, by decide⟩, ?_⟩
    refine ⟨_, rfl, _, rfl, _, _, rfl, rfl, _, rfl, ite2 (fun e => ?_) (fun d1 => ?_)⟩
    · have e := of_decide_eq_true e
      refine iteT ⟨_, rfl, _, _, rfl, rfl, ?_⟩
      unfold nearI at q
      rw [if_pos (.inl e)] at q
      exact q
    · have d1 : ¬ u < 2 * (v % u) := fun z => d1 (decide_eq_true z)
      refine ⟨_, rfl, _, rfl, rfl, _, rfl, ite2 (fun e => ?_) (fun d2 => ?_)⟩
      · have e : 2 * (v % u) = u := V.int.inj (of_decide_eq_true e)
        refine ⟨_, rfl, _, _, rfl, rfl, (by show (0 : Int) < 2; decide), rfl, _, rfl, ite2 (fun f => ?_) (fun d3 => ?_)⟩
        · have f : v / u % 2 = 1 := V.int.inj (of_decide_eq_true f)
          refine ⟨_, rfl, _, _, rfl, rfl, ?_⟩
          unfold nearI at q
          rw [if_pos (.inr ⟨e, f⟩)] at q
          exact q
        · have d3 : ¬ v / u % 2 = 1 := fun z => d3 (decide_eq_true (congrArg V.int z))
          refine ⟨_, rfl, ?_⟩
          unfold nearI at q
          rw [if_neg (fun z => z.elim d1 fun z => d3 z.2)] at q
          exact q
      · have d2 : ¬ 2 * (v % u) = u := fun z => d2 (decide_eq_true (congrArg V.int z))
        refine iteF ⟨_, rfl, ?_⟩
        unfold nearI at q
        rw [if_neg (fun z => z.elim d1 fun z => d2 z.1)] at q
        exact q
/-! ### sign_of_product -/
def spSgn : Sp := fun vs H Q _ => ∃ x y : Int, vs = [.int x, .int y] ∧ Q (.int (sgnI x y)) H
theorem sc_sign_of_product : FnScope ["p", "q"] ["p", "q"] (defScope s_sign_of_product) := ⟨rfl, rfl, rfl, by decide +kernel, rfl, by decide +kernel, by decide +kernel⟩
theorem ok_sign_of_product (T : Txt K mg A) : FnOk P w K mg base CX0 1 A.f_sign_of_product A.d_sign_of_product ["p", "q"] spSgn := by
  obtain ⟨t1, c1⟩ := T.c_SIGN
  refine T.F_sign_of_product.ok sc_sign_of_product (fun vs H Q E h => ?_) (fun cdv A' outer s H vs Q E hr h => ?_)
  · obtain ⟨x, y, rfl, _⟩ := h
    rfl
  · obtain ⟨x, y, rfl, q⟩ := h
    refine ⟨_, pss_one (ps_ret (pe_op op_mod (pe_op op_add (pe_op op_fdivW (pv 0) (pe_cint rfl c1)) (pe_op op_fdivW (pv 1) (pe_cint rfl c1))) pe_int)), ?_⟩
    exact ⟨_, rfl, _, _, rfl, rfl, ⟨by decide, by decide +kernel⟩, _, rfl, _, _, rfl, rfl, ⟨by decide, by decide +kernel⟩, _, _, rfl, rfl, _, _, rfl, rfl, (by show (0 : Int) < 2; decide), q⟩
/-! ### exact -/
def spExact : Sp := fun vs H Q _ => ∃ x : Int, vs = [.int x] ∧ Q (.int (exactI x)) H
theorem sc_exact : FnScope ["single", "size", "number"] ["single"] (defScope s_exact) := ⟨rfl, rfl, rfl, by decide +kernel, rfl, by decide +kernel, by decide +kernel⟩
theorem ok_exact (T : Txt K mg A) : FnOk P w K mg base CX0 2 A.f_exact A.d_exact ["single"] spExact := by
  have G1 : FnOk P w K mg base CX0 1 A.f_is_zero A.d_is_zero ["single"] spZer := ok_is_zero T
  obtain ⟨t1, c1⟩ := T.c_SIGN
  obtain ⟨t2, c2⟩ := T.c_LEAST_NORMAL
  refine T.F_exact.ok sc_exact (fun vs H Q E h => ?_) (fun cdv A' outer s H vs Q E hr h => ?_)
  · obtain ⟨x, rfl, _⟩ := h
    rfl
  · obtain ⟨x, rfl, q⟩ := h
    refine ⟨_, pss_cons (ps_if (pt_val (pe_call G1 hr (by rfl) T.g_is_zero T.F_is_zero.kp T.b_is_zero .nil pass0 (pa_cons (pv 0) pa_nil))) (pss_one (ps_ret pe_int)) pss_nil)
      (pss_cons (ps_set (i := 1) sc_exact.nd rfl (.inl rfl) (pe_op op_mod (pv 0) (pe_cint rfl c1)))
      (pss_cons (ps_set (i := 2) sc_exact.nd rfl (.inl rfl) (pe_op op_shl (pe_op op_add (pe_cint rfl c2) (pe_op op_mod (pv 1) (pe_cint rfl c2))) (pe_op op_sub (pe_op op_fdiv (pv 1) (pe_cint rfl c2)) pe_int)))
      (pss_one (ps_ret (pe_ifExp (pt_cmpR op_ge (pv 0) (pe_cint rfl c1) (nomark _)) (pe_un un_neg (pv 2)) (pv 2)))))), ?_⟩
    refine ⟨_, rfl, x, rfl, _, rfl, ite2 (fun e => ?_) (fun d1 => ?_)⟩
    · have e := of_decide_eq_true e
      unfold exactI at q
      rw [if_pos e] at q
      exact q
    have d1 : ¬ zerI x := fun z => d1 (decide_eq_true z)
    have d0 : ¬ x % 2147483648 < 8388608 := d1
    unfold exactI at q
    rw [if_neg d1] at q
    refine ⟨_, rfl, _, _, rfl, rfl, (by show (0 : Int) < 2147483648; decide), ?_⟩
    refine ⟨_, rfl, _, _, rfl, rfl, (by show (0 : Int) < 8388608; decide), _, _, rfl, rfl, _, rfl, _, _, rfl, rfl, ⟨by decide, by decide⟩, _, _, rfl, rfl, _, _, rfl, rfl, ⟨?_, ?_, ?_⟩, ?_⟩
    · show (0 : Int) ≤ x % 2147483648 / 8388608 - 1
      omega
    · show x % 2147483648 / 8388608 - 1 ≤ 1000000
      omega
    · show (8388608 + x % 2147483648 % 8388608).natAbs < 2 ^ 64
      omega
    refine ⟨_, rfl, _, _, rfl, rfl, _, rfl, ite2 (fun e => ?_) (fun e => ?_)⟩
    · have e := of_decide_eq_true e
      rw [if_pos e] at q
      exact ⟨_, rfl, _, rfl, q⟩
    · rw [if_neg (fun z => e (decide_eq_true z))] at q
      exact ⟨_, rfl, q⟩
/-! ### rounded_single -/
def spRnd : Sp := fun vs H Q _ => ∃ t : Int, vs = [.int t] ∧ t ≠ 0 ∧ t.natAbs < 2 ^ 561 ∧ Q (.int (rndI t)) H
theorem abs_is (t : Int) : (if t < 0 then -t else t) = (t.natAbs : Int) := by
  split <;> omega
theorem surp_is {t : Int} (h : t ≠ 0) : (if ((Builtin.Int.intBits (t.natAbs : Int) : Nat) : Int) - 24 > 0 then ((Builtin.Int.intBits (t.natAbs : Int) : Nat) : Int) - 24 else 0) = (surp t : Int) := by
  have e : Builtin.Int.intBits (t.natAbs : Int) = t.natAbs.log2 + 1 := by
    unfold Builtin.Int.intBits
    rw [if_neg (by simp only [beq_iff_eq]; omega)]
    rfl
  rw [e]
  unfold surp
  split <;> omega
theorem pow_log (k : Nat) : ((2 : Int) ^ k).natAbs.log2 = k := by
  rw [show ((2 : Int) ^ k) = ((2 ^ k : Nat) : Int) by rw [Int.natCast_pow]; rfl, Int.natAbs_natCast, Nat.log2_two_pow]
theorem pow_pos' (k : Nat) : (0 : Int) < 2 ^ k := by
  rw [show ((2 : Int) ^ k) = ((2 ^ k : Nat) : Int) by rw [Int.natCast_pow]; rfl]
  exact Int.ofNat_lt.mpr (Nat.two_pow_pos k)
theorem min_is (a b : Int) : (if b < a then b else a) = min a b := by
  split <;> omega
theorem sc_rounded_single : FnScope ["total", "surplus", "count", "size"] ["total"] (defScope s_rounded_single) := ⟨rfl, rfl, rfl, by decide +kernel, rfl, by decide +kernel, by decide +kernel⟩
theorem ok_rounded_single (T : Txt K mg A) : FnOk P w K mg base CX0 2 A.f_rounded_single A.d_rounded_single ["total"] spRnd := by
  have G1 : FnOk P w K mg base CX0 1 A.f_nearest_multiple A.d_nearest_multiple ["number", "unit"] spNear := ok_nearest_multiple T
  obtain ⟨t1, c1⟩ := T.c_SIGN
  obtain ⟨t2, c2⟩ := T.c_LEAST_NORMAL
  obtain ⟨t3, c3⟩ := T.c_SINGLE_BITS
  obtain ⟨t4, c4⟩ := T.c_INFINITY
  refine T.F_rounded_single.ok sc_rounded_single (fun vs H Q E h => ?_) (fun cdv A' outer s H vs Q E hr h => ?_)
  · obtain ⟨t, rfl, _⟩ := h
    rfl
  · obtain ⟨t, rfl, h0, h5, q⟩ := h
    refine ⟨_, pss_cons (ps_set (i := 1) sc_rounded_single.nd rfl (.inl rfl) (pe_callB (call_max2 rfl) (by rfl) T.z_max boot_max (pa_cons pe_int (pa_cons (pe_op op_sub (pe_bits (pe_callB call_abs (by rfl) T.z_abs boot_abs (pa_cons (pv 0) pa_nil))) (pe_cint rfl c3)) pa_nil))))
      (pss_cons (ps_set (i := 2) sc_rounded_single.nd rfl (.inl rfl) (pe_call G1 hr (by rfl) T.g_nearest_multiple T.F_nearest_multiple.kp T.b_nearest_multiple .nil pass0 (pa_cons (pe_callB call_abs (by rfl) T.z_abs boot_abs (pa_cons (pv 0) pa_nil)) (pa_cons (pe_op op_shl pe_int (pv 1)) pa_nil))))
      (pss_cons (ps_set (i := 3) sc_rounded_single.nd rfl (.inl rfl) (pe_op op_add (pe_op op_mul (pe_op op_sub (pv 1) pe_int) (pe_cint rfl c2)) (pv 2)))
      (pss_cons (ps_if (pt_cmpR op_lt (pv 3) (pe_cint rfl c2) (nomark _)) (pss_one (ps_set (i := 3) sc_rounded_single.nd rfl (.inl rfl) pe_int)) pss_nil)
      (pss_one (ps_ret (pe_op op_add (pe_callB (call_min2 rfl) (by rfl) T.z_min boot_min (pa_cons (pv 3) (pa_cons (pe_cint rfl c4) pa_nil))) (pe_ifExp (pt_cmpR op_lt (pv 0) pe_int (nomark _)) (pe_cint rfl c1) pe_int))))))), ?_⟩
    have l5 : surp t < 561 := by
      have := tot_log h5
      unfold surp
      omega
    have p1 : (1 : Int) * 2 ^ ((surp t : Nat) : Int).toNat = 2 ^ surp t := by rw [Int.one_mul, Int.toNat_natCast]
    refine ⟨_, rfl, _, rfl, _, rfl, _, _, rfl, rfl, _, _, rfl, ?_⟩
    rw [abs_is, surp_is h0]
    refine ⟨_, rfl, _, rfl, _, rfl, _, _, rfl, rfl, ⟨by omega, by omega, by decide⟩, ?_⟩
    rw [abs_is]
    refine ⟨_, 2 ^ surp t, congrArg (fun z => [V.int (t.natAbs : Int), V.int z]) p1, pow_pos' _, (by rw [pow_log]; omega), ?_⟩
    refine ⟨_, rfl, _, _, rfl, rfl, _, _, rfl, rfl, .inr ⟨by decide, by decide⟩, _, rfl, _, _, rfl, rfl, ?_⟩
    unfold rndI at q
    refine ⟨_, rfl, _, _, rfl, rfl, _, rfl, ite2 (fun e => ?_) (fun e => ?_)⟩
    · have e : tallI t < 8388608 := of_decide_eq_true e
      rw [if_pos e] at q
      refine ⟨_, rfl, _, _, rfl, _, rfl, _, _, rfl, rfl, _, rfl, ite2 (fun f => ?_) (fun f => ?_)⟩
      · have f := of_decide_eq_true f
        rw [if_pos f] at q
        exact ⟨_, _, rfl, rfl, q⟩
      · rw [if_neg (fun z => f (decide_eq_true z))] at q
        exact ⟨_, _, rfl, rfl, q⟩
    · have e : ¬ tallI t < 8388608 := fun z => e (decide_eq_true z)
      rw [if_neg e, ← min_is] at q
      refine ⟨_, rfl, _, _, rfl, _, rfl, _, _, rfl, rfl, _, rfl, ite2 (fun f => ?_) (fun f => ?_)⟩
      · have f := of_decide_eq_true f
        rw [if_pos f] at q
        exact ⟨_, _, rfl, rfl, q⟩
      · rw [if_neg (fun z => f (decide_eq_true z))] at q
        exact ⟨_, _, rfl, rfl, q⟩
/-! ### infinite_sum -/
def spIS : Sp := fun vs H Q _ => ∃ x a b : Int, vs = [.int x, .int a, .int b] ∧ Q (.int (infSumI x a b)) H
theorem sc_infinite_sum : FnScope ["single", "p", "q", "product"] ["single", "p", "q"] (defScope s_infinite_sum) := ⟨rfl, rfl, rfl, by decide +kernel, rfl, by decide +kernel, by decide +kernel⟩
theorem ok_infinite_sum (T : Txt K mg A) : FnOk P w K mg base CX0 2 A.f_infinite_sum A.d_infinite_sum ["single", "p", "q"] spIS := by
  have G1 : FnOk P w K mg base CX0 1 A.f_is_infinite A.d_is_infinite ["single"] spInf := ok_is_infinite T
  have G2 : FnOk P w K mg base CX0 1 A.f_is_zero A.d_is_zero ["single"] spZer := ok_is_zero T
  have G3 : FnOk P w K mg base CX0 1 A.f_sign_of_product A.d_sign_of_product ["p", "q"] spSgn := ok_sign_of_product T
  obtain ⟨t1, c1⟩ := T.c_SIGN
  obtain ⟨t2, c2⟩ := T.c_INFINITY
  obtain ⟨t3, c3⟩ := T.c_NAN
  refine T.F_infinite_sum.ok sc_infinite_sum (fun vs H Q E h => ?_) (fun cdv A' outer s H vs Q E hr h => ?_)
  · obtain ⟨x, a, b, rfl, _⟩ := h
    rfl
  · obtain ⟨x, a, b, rfl, q⟩ := h
    refine ⟨_, pss_cons (ps_if (PW.pt (pw_and (pt_not (pt_val (pe_call G1 hr (by rfl) T.g_is_infinite T.F_is_infinite.kp T.b_is_infinite .nil pass0 (pa_cons (pv 1) pa_nil)))) (pw_and1 (pt_not (pt_val (pe_call G1 hr (by rfl) T.g_is_infinite T.F_is_infinite.kp T.b_is_infinite .nil pass0 (pa_cons (pv 2) pa_nil)))))))
        (pss_one (ps_ret (pv 0))) pss_nil)
      (pss_cons (ps_if (PW.pt (pw_or (pt_val (pe_call G2 hr (by rfl) T.g_is_zero T.F_is_zero.kp T.b_is_zero .nil pass0 (pa_cons (pv 1) pa_nil))) (pw_or1 (pt_val (pe_call G2 hr (by rfl) T.g_is_zero T.F_is_zero.kp T.b_is_zero .nil pass0 (pa_cons (pv 2) pa_nil))))))
        (pss_one (ps_ret (pe_cint rfl c3))) pss_nil)
      (pss_cons (ps_set (i := 3) sc_infinite_sum.nd rfl (.inl rfl) (pe_op op_add (pe_cint rfl c2) (pe_op op_mul (pe_cint rfl c1) (pe_call G3 hr (by rfl) T.g_sign_of_product T.F_sign_of_product.kp T.b_sign_of_product .nil pass0 (pa_cons (pv 1) (pa_cons (pv 2) pa_nil))))))
      (pss_cons (ps_if (PW.pt (pw_and (pt_val (pe_call G1 hr (by rfl) T.g_is_infinite T.F_is_infinite.kp T.b_is_infinite .nil pass0 (pa_cons (pv 0) pa_nil))) (pw_and1 (pt_cmpR op_ne (pv 0) (pv 3) (nomark _)))))
        (pss_one (ps_ret (pe_cint rfl c3))) pss_nil)
      (pss_one (ps_ret (pv 3)))))), ?_⟩
    refine ⟨_, rfl, a, rfl, _, rfl, ite2 (fun ea => ⟨_, rfl, b, rfl, _, rfl, ite2 (fun eb => ?_) (fun eb => ?_)⟩) (fun ea => iteF ?_)⟩
    · have ea : ¬ infI a := fun z => by
        rw [decide_eq_true z] at ea
        cases ea
      have eb : ¬ infI b := fun z => by
        rw [decide_eq_true z] at eb
        cases eb
      unfold infSumI at q
      rw [if_pos ⟨ea, eb⟩] at q
      exact ⟨_, rfl, q⟩
    all_goals
      have hi : ¬ (¬ infI a ∧ ¬ infI b) := fun z => by
        first
        | exact eb (by rw [decide_eq_false z.2]; rfl)
        | exact ea (by rw [decide_eq_false z.1]; rfl)
      unfold infSumI at q
      rw [if_neg hi] at q
      refine ⟨_, rfl, a, rfl, _, rfl, ite2 (fun za => iteT ?_) (fun za => ⟨_, rfl, b, rfl, _, rfl, ite2 (fun zb => ?_) (fun zb => ?_)⟩)⟩
      · rw [if_pos (.inl (of_decide_eq_true za))] at q
        exact q
      · rw [if_pos (.inr (of_decide_eq_true zb))] at q
        exact q
      · rw [if_neg (fun z => z.elim (fun z => za (decide_eq_true z)) (fun z => zb (decide_eq_true z)))] at q
        refine ⟨_, rfl, _, rfl, a, b, rfl, _, _, rfl, rfl, .inl ⟨by decide, by decide⟩, _, _, rfl, rfl, ?_⟩
        refine ⟨_, rfl, x, rfl, _, rfl, ite2 (fun ex => ⟨_, rfl, _, rfl, rfl, _, rfl, ite2 (fun en => ?_) (fun en => ?_)⟩) (fun ex => iteF ?_)⟩
        · have en : x ≠ 2139095040 + 2147483648 * sgnI a b := fun z => by
            rw [decide_eq_true (congrArg V.int z)] at en
            cases en
          rw [if_pos ⟨of_decide_eq_true ex, en⟩] at q
          exact q
        · have en : ¬ x ≠ 2139095040 + 2147483648 * sgnI a b := fun z => en (by
            rw [decide_eq_false (fun y => z (V.int.inj y))]
            rfl)
          rw [if_neg (fun z => en z.2)] at q
          exact ⟨_, rfl, q⟩
        · rw [if_neg (fun z => ex (decide_eq_true z.1))] at q
          exact ⟨_, rfl, q⟩
/-! ### add_product -/
def spAdd : Sp := fun vs H Q _ => ∃ x a b : Int, vs = [.int x, .int a, .int b] ∧ Q (.int (addI x a b)) H
theorem sgn_within (a b : Int) : 0 ≤ sgnI a b ∧ sgnI a b ≤ 1 := by
  unfold sgnI
  omega
theorem sc_add_product : FnScope ["single", "p", "q", "total"] ["single", "p", "q"] (defScope s_add_product) := ⟨rfl, rfl, rfl, by decide +kernel, rfl, by decide +kernel, by decide +kernel⟩
theorem ok_add_product (T : Txt K mg A) : FnOk P w K mg base CX0 3 A.f_add_product A.d_add_product ["single", "p", "q"] spAdd := by
  have G1 : FnOk P w K mg base CX0 1 A.f_is_nan A.d_is_nan ["single"] spNan := ok_is_nan T
  have G2 : FnOk P w K mg base CX0 1 A.f_is_infinite A.d_is_infinite ["single"] spInf := ok_is_infinite T
  have G3 : FnOk P w K mg base CX0 2 A.f_infinite_sum A.d_infinite_sum ["single", "p", "q"] spIS := ok_infinite_sum T
  have G4 : FnOk P w K mg base CX0 2 A.f_exact A.d_exact ["single"] spExact := ok_exact T
  have G5 : FnOk P w K mg base CX0 1 A.f_sign_of_product A.d_sign_of_product ["p", "q"] spSgn := ok_sign_of_product T
  have G6 : FnOk P w K mg base CX0 2 A.f_rounded_single A.d_rounded_single ["total"] spRnd := ok_rounded_single T
  obtain ⟨t1, c1⟩ := T.c_SIGN
  obtain ⟨t2, c2⟩ := T.c_ONE
  obtain ⟨t3, c3⟩ := T.c_NAN
  refine T.F_add_product.ok sc_add_product (fun vs H Q E h => ?_) (fun cdv A' outer s H vs Q E hr h => ?_)
  · obtain ⟨x, a, b, rfl, _⟩ := h
    rfl
  · obtain ⟨x, a, b, rfl, q⟩ := h
    have hr1 : Room 1 _ := hr.mono (by decide)
    refine ⟨_, pss_cons (ps_if (PW.pt (pw_or (pt_val (pe_call G1 hr1 (by rfl) T.g_is_nan T.F_is_nan.kp T.b_is_nan .nil pass0 (pa_cons (pv 0) pa_nil))) (pw_or (pt_val (pe_call G1 hr1 (by rfl) T.g_is_nan T.F_is_nan.kp T.b_is_nan .nil pass0 (pa_cons (pv 1) pa_nil))) (pw_or1 (pt_val (pe_call G1 hr1 (by rfl) T.g_is_nan T.F_is_nan.kp T.b_is_nan .nil pass0 (pa_cons (pv 2) pa_nil)))))))
        (pss_one (ps_ret (pe_cint rfl c3))) pss_nil)
      (pss_cons (ps_if (PW.pt (pw_or (pt_val (pe_call G2 hr1 (by rfl) T.g_is_infinite T.F_is_infinite.kp T.b_is_infinite .nil pass0 (pa_cons (pv 0) pa_nil))) (pw_or (pt_val (pe_call G2 hr1 (by rfl) T.g_is_infinite T.F_is_infinite.kp T.b_is_infinite .nil pass0 (pa_cons (pv 1) pa_nil))) (pw_or1 (pt_val (pe_call G2 hr1 (by rfl) T.g_is_infinite T.F_is_infinite.kp T.b_is_infinite .nil pass0 (pa_cons (pv 2) pa_nil)))))))
        (pss_one (ps_ret (pe_call G3 hr (by rfl) T.g_infinite_sum T.F_infinite_sum.kp T.b_infinite_sum .nil pass0 (pa_cons (pv 0) (pa_cons (pv 1) (pa_cons (pv 2) pa_nil)))))) pss_nil)
      (pss_cons (ps_set (i := 3) sc_add_product.nd rfl (.inl rfl) (pe_op op_add
          (pe_op op_mulW (pe_call G4 hr (by rfl) T.g_exact T.F_exact.kp T.b_exact .nil pass0 (pa_cons (pv 0) pa_nil)) (pe_call G4 hr (by rfl) T.g_exact T.F_exact.kp T.b_exact .nil pass0 (pa_cons (pe_cint rfl c2) pa_nil)))
          (pe_op op_mulW (pe_call G4 hr (by rfl) T.g_exact T.F_exact.kp T.b_exact .nil pass0 (pa_cons (pv 1) pa_nil)) (pe_call G4 hr (by rfl) T.g_exact T.F_exact.kp T.b_exact .nil pass0 (pa_cons (pv 2) pa_nil)))))
      (pss_cons (ps_if (pt_cmpR op_eq (pv 3) pe_int (nomark _)) (pss_one (ps_ret (pe_op op_mul (pe_cint rfl c1) (pe_op op_mul (pe_op op_fdivW (pv 0) (pe_cint rfl c1)) (pe_call G5 hr1 (by rfl) T.g_sign_of_product T.F_sign_of_product.kp T.b_sign_of_product .nil pass0 (pa_cons (pv 1) (pa_cons (pv 2) pa_nil))))))) pss_nil)
      (pss_one (ps_ret (pe_call G6 hr (by rfl) T.g_rounded_single T.F_rounded_single.kp T.b_rounded_single .nil pass0 (pa_cons (pv 3) pa_nil))))))), ?_⟩
    unfold addI at q
    refine ⟨_, rfl, x, rfl, _, rfl, ite2 (fun e => iteT ?_) (fun d1 => ⟨_, rfl, a, rfl, _, rfl, ite2 (fun e => iteT ?_) (fun d2 => ⟨_, rfl, b, rfl, _, rfl, ite2 (fun e => ?_) (fun d3 => ?_)⟩)⟩)⟩
    · rw [if_pos (.inl (of_decide_eq_true e))] at q
      exact q
    · rw [if_pos (.inr (.inl (of_decide_eq_true e)))] at q
      exact q
    · rw [if_pos (.inr (.inr (of_decide_eq_true e)))] at q
      exact q
    have dn : ¬ (nanI x ∨ nanI a ∨ nanI b) := fun z => z.elim (fun z => d1 (decide_eq_true z)) fun z => z.elim (fun z => d2 (decide_eq_true z)) fun z => d3 (decide_eq_true z)
    rw [if_neg dn] at q
    refine ⟨_, rfl, x, rfl, _, rfl, ite2 (fun e => iteT ?_) (fun d1 => ⟨_, rfl, a, rfl, _, rfl, ite2 (fun e => iteT ?_) (fun d2 => ⟨_, rfl, b, rfl, _, rfl, ite2 (fun e => ?_) (fun d3 => ?_)⟩)⟩)⟩
    · rw [if_pos (.inl (of_decide_eq_true e))] at q
      exact ⟨_, rfl, _, rfl, _, rfl, x, a, b, rfl, q⟩
    · rw [if_pos (.inr (.inl (of_decide_eq_true e)))] at q
      exact ⟨_, rfl, _, rfl, _, rfl, x, a, b, rfl, q⟩
    · rw [if_pos (.inr (.inr (of_decide_eq_true e)))] at q
      exact ⟨_, rfl, _, rfl, _, rfl, x, a, b, rfl, q⟩
    have di : ¬ (infI x ∨ infI a ∨ infI b) := fun z => z.elim (fun z => d1 (decide_eq_true z)) fun z => z.elim (fun z => d2 (decide_eq_true z)) fun z => d3 (decide_eq_true z)
    rw [if_neg di] at q
    refine ⟨_, rfl, x, rfl, _, rfl, _, _, rfl, rfl, wide_mul (exact_within _) (exact_within _) (by decide) (by decide) (by decide), ?_⟩
    refine ⟨_, rfl, a, rfl, _, rfl, b, rfl, _, _, rfl, rfl, wide_mul (exact_within _) (exact_within _) (by decide) (by decide) (by decide), _, _, rfl, rfl, ?_⟩
    refine ⟨_, rfl, rfl, _, rfl, ite2 (fun e => ?_) (fun e => ?_)⟩
    · have e : totI x a b = 0 := V.int.inj (of_decide_eq_true e)
      rw [if_pos e] at q
      have hs := sgn_within a b
      exact ⟨_, rfl, _, _, rfl, rfl, ⟨by decide, by decide +kernel⟩, _, rfl, _, rfl, a, b, rfl, _, _, rfl, rfl, .inr ⟨by omega, by omega⟩, _, _, rfl, rfl, .inl ⟨by decide, by decide⟩, q⟩
    · have e : ¬ totI x a b = 0 := fun z => e (decide_eq_true (congrArg V.int z))
      rw [if_neg e] at q
      exact ⟨_, rfl, totI x a b, rfl, e, tot_within x a b, q⟩
/-! ### take_step -/
def spTs : Sp := fun vs H Q _ => ∃ x a b : Int, vs = [.int x, .int a, .int b] ∧ Q (.int (tsI x a b)) H
theorem sc_take_step : FnScope ["single", "p", "q"] ["single", "p", "q"] (defScope s_take_step) := ⟨rfl, rfl, rfl, by decide +kernel, rfl, by decide +kernel, by decide +kernel⟩
theorem ok_take_step (T : Txt K mg A) : FnOk P w K mg base CX0 4 A.f_take_step A.d_take_step ["single", "p", "q"] spTs := by
  have G1 : FnOk P w K mg base CX0 3 A.f_add_product A.d_add_product ["single", "p", "q"] spAdd := ok_add_product T
  obtain ⟨t1, c1⟩ := T.c_SPAN_16
  refine T.F_take_step.ok sc_take_step (fun vs H Q E h => ?_) (fun cdv A' outer s H vs Q E hr h => ?_)
  · obtain ⟨x, a, b, rfl, _⟩ := h
    rfl
  · obtain ⟨x, a, b, rfl, q⟩ := h
    refine ⟨_, pss_one (ps_ret (pe_call G1 hr (by rfl) T.g_add_product T.F_add_product.kp T.b_add_product .nil pass0 (pa_cons (pv 0) (pa_cons (pe_op op_mul (pv 1) (pe_cint rfl c1)) (pa_cons (pe_op op_mul (pv 2) (pe_cint rfl c1)) pa_nil))))), ?_⟩
    exact ⟨_, rfl, _, rfl, _, _, rfl, rfl, .inr ⟨by decide, by decide⟩, _, rfl, _, _, rfl, rfl, .inr ⟨by decide, by decide⟩, x, _, _, rfl, q⟩
/-! ### take_two_steps -/
def spTw (K : PySem.W.Frag) : Sp := fun vs H Q _ => ∃ (x : Int) (ax aw : Addr) (xs ys : List Int) (i : Nat), vs = [.int x, .ref ax, .ref aw, .int (i : Int)] ∧ SqL K H ax (xs.map V.int) ∧ SqL K H aw (ys.map V.int) ∧ i + 1 < xs.length ∧ i + 1 < ys.length ∧
  Q (.int (twI x (gi xs (i + 1)) (gi ys (i + 1)) (gi xs i) (gi ys i))) H
theorem sc_take_two_steps : FnScope ["single", "x", "w", "at"] ["single", "x", "w", "at"] (defScope s_take_two_steps) := ⟨rfl, rfl, rfl, by decide +kernel, rfl, by decide +kernel, by decide +kernel⟩
theorem ok_take_two_steps (T : Txt K mg A) : FnOk P w K mg base CX0 5 A.f_take_two_steps A.d_take_two_steps ["single", "x", "w", "at"] (spTw K) := by
  have G1 : FnOk P w K mg base CX0 4 A.f_take_step A.d_take_step ["single", "p", "q"] spTs := ok_take_step T
  refine T.F_take_two_steps.ok sc_take_two_steps (fun vs H Q E h => ?_) (fun cdv A' outer s H vs Q E hr h => ?_)
  · obtain ⟨x, ax, aw, xs, ys, i, rfl, _⟩ := h
    rfl
  · obtain ⟨x, ax, aw, xs, ys, i, rfl, hX, hY, lx, ly, q⟩ := h
    refine ⟨_, pss_cons (ps_set (i := 0) sc_take_two_steps.nd rfl (.inl rfl) (pe_call G1 hr (by rfl) T.g_take_step T.F_take_step.kp T.b_take_step .nil pass0 (pa_cons (pv 0) (pa_cons (pe_ix ix_list (pv 1) (pe_op op_add (pv 3) pe_int) (fun _ _ => rfl)) (pa_cons (pe_ix ix_list (pv 2) (pe_op op_add (pv 3) pe_int) (fun _ _ => rfl)) pa_nil)))))
      (pss_one (ps_ret (pe_call G1 hr (by rfl) T.g_take_step T.F_take_step.kp T.b_take_step .nil pass0 (pa_cons (pv 0) (pa_cons (pe_ix ix_list (pv 1) (pv 3) (fun _ _ => rfl)) (pa_cons (pe_ix ix_list (pv 2) (pv 3) (fun _ _ => rfl)) pa_nil)))))), ?_⟩
    refine ⟨_, rfl, _, rfl, _, rfl, _, _, rfl, rfl, ax, _, _, .int (gi xs (i + 1)), rfl, rfl, hX, (by exact atI_nat (j := i + 1) (at_map lx)), ?_⟩
    refine ⟨_, rfl, _, rfl, _, _, rfl, rfl, aw, _, _, .int (gi ys (i + 1)), rfl, rfl, hY, (by exact atI_nat (j := i + 1) (at_map ly)), ?_⟩
    refine ⟨x, _, _, rfl, ?_⟩
    refine ⟨_, rfl, _, rfl, _, rfl, ax, _, _, .int (gi xs i), rfl, rfl, hX, (by exact atI_nat (at_map (by omega))), ?_⟩
    refine ⟨_, rfl, _, rfl, aw, _, _, .int (gi ys i), rfl, rfl, hY, (by exact atI_nat (at_map (by omega))), ?_⟩
    exact ⟨_, _, _, rfl, q⟩

/-! ### whole_blocks -/
def spPad (K : PySem.W.Frag) : Sp := fun vs H Q _ => ∃ (a : Addr) (l : List Int), vs = [.ref a] ∧ SqL K H a (l.map V.int) ∧ l.length ≤ 4000 ∧
  ∀ H' p, Same H H' → H p = none → H' p = some (.lst ((padI l).map V.int)) → Q (.ref p) H'
theorem pad_is (l : List Int) : l.map V.int ++ (List.replicate ((-((l.length : Nat) : Int)) % 32).toNat [V.int 0]).flatten = (padI l).map V.int := by
  unfold padI
  rw [List.flatten_replicate_singleton, List.map_append, List.map_replicate]
theorem sc_whole_blocks : FnScope ["numbers"] ["numbers"] (defScope s_whole_blocks) := ⟨rfl, rfl, rfl, by decide +kernel, rfl, by decide +kernel, by decide +kernel⟩
theorem ok_whole_blocks (T : Txt K mg A) : FnOk P w K mg base CX0 1 A.f_whole_blocks A.d_whole_blocks ["numbers"] (spPad K) := by
  obtain ⟨t1, c1⟩ := T.c_BLOCK
  refine T.F_whole_blocks.ok sc_whole_blocks (fun vs H Q E h => ?_) (fun cdv A' outer s H vs Q E hr h => ?_)
  · obtain ⟨a, l, rfl, _⟩ := h
    rfl
  · obtain ⟨a, l, rfl, hL, hl, q⟩ := h
    refine ⟨_, pss_one (ps_ret (pe_op op_catL (pv 0) (pe_op op_rep (pe_lst (pa_cons pe_int pa_nil)) (pe_op op_mod (pe_un un_neg (pe_callB call_len_seq (by rfl) T.z_len PySem.boot_len (pa_cons (pv 0) pa_nil))) (pe_cint rfl c1))))), ?_⟩
    refine ⟨_, rfl, (by show 1 ≤ sizeLine; decide), fun p1 n1 => ?_⟩
    have s1 : Same H (upd H p1 (.lst [.int 0])) := same_upd n1
    refine ⟨_, rfl, a, _, rfl, .inl (s1.seq hL), _, rfl, _, _, rfl, rfl, (by show (0 : Int) < 32; decide), ?_⟩
    rw [List.length_map]
    have m32 : (-((l.length : Nat) : Int)) % 32 < 32 ∧ 0 ≤ (-((l.length : Nat) : Int)) % 32 := by omega
    refine ⟨p1, _, [.int 0], rfl, rfl, upd_same, (by omega), (by omega), ?_, fun p2 n2 => ?_⟩
    · exact Nat.le_trans (show [V.int 0].length * ((-((l.length : Nat) : Int)) % 32).toNat ≤ 32 by show 1 * _ ≤ 32; omega) (by decide)
    have s2 := same_upd (o := .lst (List.replicate ((-((l.length : Nat) : Int)) % 32).toNat [V.int 0]).flatten) n2
    refine ⟨a, p2, _, _, rfl, rfl, s2.seq (s1.seq hL), SqL.of upd_same, ?_, fun p3 n3 => ?_⟩
    · rw [List.flatten_replicate_singleton, List.length_map, List.length_replicate]
      exact Nat.le_trans (show _ ≤ 5000 by omega) (by decide)
    refine q _ p3 (fun b x e => ?_) (s1.free (s2.free n3)) ?_
    · exact same_upd n3 b x (s2 b x (s1 b x e))
    · rw [upd_same, pad_is]
/-! ### sums_of_blocks -/
theorem rgc_all : ∀ B : Nat, B < 17 → (Builtin.Range.small 0 ((32 * B : Nat) : Int) 2 = true ∧ Builtin.Range.rangeSize 0 ((32 * B : Nat) : Int) 2 = ((16 * B : Nat) : Int)) := by decide +kernel
def spSums (K : PySem.W.Frag) : Sp := fun vs H Q _ => ∃ (ax aw : Addr) (xs ys : List Int) (B : Nat), vs = [.ref ax, .ref aw] ∧ SqL K H ax (xs.map V.int) ∧ SqL K H aw (ys.map V.int) ∧ B < 17 ∧ xs.length = 32 * B ∧ ys.length = 32 * B ∧
  (∀ a ∈ xs, 0 ≤ a ∧ a < 65536) ∧ (∀ a ∈ ys, 0 ≤ a ∧ a < 65536) ∧ ∀ H' p, Same H H' → H p = none → H' p = some (.lst (((List.range 16).map fun j => Sv05Neutral.said (laneO xs ys j B)).map V.int)) → Q (.ref p) H'
theorem sc_sums_of_blocks : FnScope ["x", "w", "sums", "at", "j"] ["x", "w"] (defScope s_sums_of_blocks) := ⟨rfl, rfl, rfl, by decide +kernel, rfl, by decide +kernel, by decide +kernel⟩
theorem ok_sums_of_blocks (T : Txt K mg A) : FnOk P w K mg base CX0 6 A.f_sums_of_blocks A.d_sums_of_blocks ["x", "w"] (spSums K) := by
  have G1 : FnOk P w K mg base CX0 5 A.f_take_two_steps A.d_take_two_steps ["single", "x", "w", "at"] (spTw K) := ok_take_two_steps T
  obtain ⟨t1, c1⟩ := T.c_LANES
  refine T.F_sums_of_blocks.ok sc_sums_of_blocks (fun vs H Q E h => ?_) (fun cdv A' outer s H vs Q E hr h => ?_)
  · obtain ⟨ax, aw, xs, ys, B, rfl, _⟩ := h
    rfl
  · obtain ⟨ax, aw, xs, ys, B, rfl, hX, hY, hB, lx, ly, bx, by', q⟩ := h
    refine ⟨_, pss_cons (ps_set (i := 2) sc_sums_of_blocks.nd rfl (.inl rfl) (pe_op op_rep (pe_lst (pa_cons pe_int pa_nil)) (pe_cint rfl c1)))
      (pss_cons (ps_for PassesOwn.never rfl (pi_range3 (by rfl) T.z_range (pa_cons pe_int (pa_cons (pe_callB call_len_seq (by rfl) T.z_len PySem.boot_len (pa_cons (pv 0) pa_nil)) (pa_cons pe_int pa_nil)))) (pg_name (i := 3) sc_sums_of_blocks.nd rfl (.inl rfl))
        (pss_cons (ps_set (i := 4) sc_sums_of_blocks.nd rfl (.inl rfl) (pe_op op_mod (pe_op op_fdiv (pv 3) pe_int) (pe_cint rfl c1)))
        (pss_one (ps_asg (pe_call G1 hr (by rfl) T.g_take_two_steps T.F_take_two_steps.kp T.b_take_two_steps .nil pass0 (pa_cons (pe_ix ix_list (pv 2) (pv 4) (fun _ _ => rfl)) (pa_cons (pv 0) (pa_cons (pv 1) (pa_cons (pv 3) pa_nil)))))
            (pg_sub (pv 2) (pv 4) set_list)))))
      (pss_one (ps_ret (pv 2)))), ?_⟩
    refine ⟨(by show 1 ≤ sizeLine; decide), fun p1 n1 => ?_⟩
    have s1 : Same H (upd H p1 (.lst [.int 0])) := same_upd n1
    refine ⟨p1, 16, [.int 0], rfl, rfl, upd_same, by decide, by decide, (by show 1 * 16 ≤ sizeLine; decide), fun p2 n2 => ?_⟩
    have s2 := same_upd (o := .lst (List.replicate (16 : Int).toNat [V.int 0]).flatten) n2
    have f2 : H p2 = none := s1.free n2
    have e2 : upd (upd H p1 (.lst [.int 0])) p2 (.lst (List.replicate (16 : Int).toNat [V.int 0]).flatten) p2 = some (.lst ((sumsAt xs ys 0).map V.int)) := by
      rw [upd_same]
      rfl
    have s12 : Same H (upd (upd H p1 (.lst [.int 0])) p2 (.lst (List.replicate (16 : Int).toNat [V.int 0]).flatten)) := fun b x z => s2 b x (s1 b x z)
    obtain ⟨r1, r2⟩ := rgc_all B hB
    refine ⟨_, rfl, ax, _, rfl, .inl (s12.seq hX), 0, ((32 * B : Nat) : Int), 2, 16 * B, ?_, ⟨by decide, by decide, r1, r2⟩, ?_⟩
    · rw [List.length_map, lx]
    refine for_rangeC (lo := 0) (c := 2) (n := 16 * B) (fun i σ H' => ∃ v3 v4, σ = [some (.ref ax), some (.ref aw), some (.ref p2), v3, v4] ∧ Same H H' ∧ H' p2 = some (.lst ((sumsAt xs ys i).map V.int)))
      ⟨none, none, rfl, s12, e2⟩ ?_ ?_
    · rintro i σ H' hi ⟨v3, v4, rfl, s5, e5⟩
      have i16 : i % 16 < 16 := Nat.mod_lt _ (by decide)
      have hj : ((2 * i : Nat) : Int) / 2 % 16 = ((i % 16 : Nat) : Int) := by omega
      rw [show (0 : Int) + (i : Nat) * 2 = ((2 * i : Nat) : Int) by omega]
      refine ⟨_, rfl, _, _, rfl, rfl, ⟨by decide, by decide⟩, _, _, rfl, rfl, (by show (0 : Int) < 16; decide), ?_⟩
      refine ⟨_, rfl, _, rfl, p2, _, _, .int (gi (sumsAt xs ys i) (i % 16)), rfl, rfl, SqL.of e5, ?_, ?_⟩
      · rw [hj]
        exact atI_nat (at_map (by rw [sumsAt_len]; exact i16))
      refine ⟨_, rfl, _, rfl, _, rfl, _, ax, aw, xs, ys, 2 * i, rfl, s5.seq hX, s5.seq hY, (by omega), (by omega), ?_⟩
      refine ⟨_, rfl, _, rfl, p2, _, _, i % 16, rfl, rfl, e5, ?_, ?_⟩
      · rw [List.length_map, sumsAt_len, hj]
        exact ixN_nat i16
      refine ⟨_, _, rfl, same_store f2 s5, ?_⟩
      rw [upd_same, ← List.map_set]
      refine congrArg (fun l : List Int => some (HO.lst (l.map V.int))) ?_
      exact sumsAt_set bx by' i
    · rintro σ H' ⟨v3, v4, rfl, s5, e5⟩
      rw [sumsAt_end] at e5
      exact ⟨_, rfl, q H' p2 s5 f2 e5⟩
/-! ### folded -/
def spFold (K : PySem.W.Frag) : Sp := fun vs H Q _ => ∃ (a : Addr) (f : Nat → Option Nat), vs = [.ref a] ∧ SqL K H a (((List.range 16).map fun j => Sv05Neutral.said (f j)).map V.int) ∧ (∀ j, Ok (f j)) ∧
  ∀ H', Same H H' → Q (.int (Sv05Neutral.said (foldTo f 4 0))) H'
def foldL (f : Nat → Option Nat) (t : Nat) : List Int := (List.range (2 ^ (4 - t))).map fun j => Sv05Neutral.said (foldTo f t j)
theorem foldL_len (f : Nat → Option Nat) (t : Nat) : ((foldL f t).map V.int).length = 2 ^ (4 - t) := by
  unfold foldL
  rw [List.length_map, List.length_map, List.length_range]
theorem foldL_at {f : Nat → Option Nat} {t j : Nat} (h : j < 2 ^ (4 - t)) : ((foldL f t).map V.int)[j]? = some (.int (Sv05Neutral.said (foldTo f t j))) := by
  unfold foldL
  rw [List.getElem?_map, range_at h]
  rfl
theorem sc_folded : FnScope ["sums", "half", "j"] ["sums"] (defScope s_folded) := ⟨rfl, rfl, rfl, by decide +kernel, rfl, by decide +kernel, by decide +kernel⟩
theorem ok_folded (T : Txt K mg A) : FnOk P w K mg base CX0 4 A.f_folded A.d_folded ["sums"] (spFold K) := by
  have G1 : FnOk P w K mg base CX0 3 A.f_add_product A.d_add_product ["single", "p", "q"] spAdd := ok_add_product T
  obtain ⟨t1, c1⟩ := T.c_ONE
  refine T.F_folded.ok sc_folded (fun vs H Q E h => ?_) (fun cdv A' outer s H vs Q E hr h => ?_)
  · obtain ⟨a, f, rfl, _⟩ := h
    rfl
  · obtain ⟨a, f, rfl, hS, hf, q⟩ := h
    refine ⟨_, pss_cons (ps_while PassesOwn.never (pt_cmpR op_gt (pe_callB call_len_seq (by rfl) T.z_len PySem.boot_len (pa_cons (pv 0) pa_nil)) pe_int (nomark _))
        (pss_cons (ps_set (i := 1) sc_folded.nd rfl (.inr rfl) (pe_op op_fdiv (pe_callB call_len_seq (by rfl) T.z_len PySem.boot_len (pa_cons (pv 0) pa_nil)) pe_int))
        (pss_one (ps_set (i := 0) sc_folded.nd rfl (.inr rfl) (pe_lc (own := [("j", 2)]) (g := gName 2) (tt := tYes) rfl sc_folded.nd (pi_range1 (by rfl) T.z_range (pa_cons (pv 1) pa_nil))
          (blkOk_by (N := ["sums", "half", "j"]) (sc := defScope s_folded) (by decide +kernel))
          (fun _ _ _ _ _ => pg_name (i := 2) sc_folded.nd rfl (Or.inl rfl)) (fun _ _ _ _ _ => pts_nil)
          (fun _ _ _ _ _ => pe_call G1 hr (by rfl) T.g_add_product T.F_add_product.kp T.b_add_product .nil pass0 (pa_cons (pe_ix (r := rIxL K) ix_list (pv 0) (pv 2) (fun _ _ => rfl)) (pa_cons (pe_ix (r := rIxL K) ix_list (pv 0) (pe_op op_add (pv 2) (pv 1)) (fun _ _ => rfl)) (pa_cons (pe_cint rfl c1) pa_nil)))))))))
      (pss_one (ps_ret (pe_ix ix_list (pv 0) pe_int (fun _ _ => rfl)))), ?_⟩
    refine ⟨fun m σ H' => ∃ (t : Nat) (p : Addr) (v1 : Option V), t + m = 4 ∧ σ = [some (.ref p), v1, none] ∧ Same H H' ∧ SqL K H' p ((foldL f t).map V.int),
      ⟨4, 0, a, none, rfl, rfl, fun _ _ z => z, hS⟩, ?_⟩
    rintro m σ H' ⟨t, p, v1, ht, rfl, s5, e5⟩
    refine ⟨_, rfl, p, _, rfl, .inl e5, _, _, rfl, rfl, _, rfl, ite2 (fun e => ?_) (fun e => ?_)⟩
    · have e := of_decide_eq_true e
      rw [foldL_len] at e
      have t4 : t < 4 := by
        rcases Nat.lt_or_ge t 4 with z | z
        · exact z
        · rw [show 4 - t = 0 by omega] at e
          exact absurd e (by decide)
      have hp : 2 ^ (4 - t) = 2 * 2 ^ (3 - t) := by rw [show 4 - t = (3 - t) + 1 by omega, Nat.pow_succ, Nat.mul_comm]
      have hle : 2 ^ (3 - t) ≤ 8 := Nat.le_trans (Nat.pow_le_pow_right (by decide) (show 3 - t ≤ 3 by omega)) (by decide)
      have hst := fun j => foldTo_step hf t j
      have hat := fun j => foldL_at (f := f) (t := t) (j := j)
      have hnx : 4 - (t + 1) = 3 - t := by omega
      have hhalf : ((((foldL f t).map V.int).length : Nat) : Int) / 2 = ((2 ^ (3 - t) : Nat) : Int) := by
        rw [foldL_len, hp]
        omega
      have hnew : foldL f (t + 1) = (List.range (2 ^ (3 - t))).map fun j => Sv05Neutral.said (foldTo f (t + 1) j) := by
        unfold foldL
        rw [hnx]
      rw [hp] at hat
      generalize hh : 2 ^ (3 - t) = h at *
      refine ⟨fun σ H' => ∃ m', m' < m ∧ ∃ (t : Nat) (p : Addr) (v1 : Option V), t + m' = 4 ∧ σ = [some (.ref p), v1, none] ∧ Same H H' ∧ SqL K H' p ((foldL f t).map V.int), fun _ _ z => z, ?_⟩
      refine ⟨_, rfl, p, _, rfl, .inl e5, _, _, rfl, rfl, ⟨by decide, by decide⟩, ?_⟩
      refine ⟨_, rfl, (h : Int), congrArg (fun z => [V.int z]) hhalf, (by omega), (by omega), fun D hD => ?_⟩
      refine lc_range (lo := 0) (n := (h : Int).toNat) (fun i H2 => Same H' H2 ∧ H2 D = some (.lst (((List.range i).map fun j => Sv05Neutral.said (foldTo f (t + 1) j)).map V.int)))
        ⟨same_upd hD, upd_same⟩ ?_ ?_
      · rintro i H2 hi ⟨s6, e6⟩
        have hi : i < h := by rw [Int.toNat_natCast] at hi; exact hi
        refine ⟨rfl, ?_⟩
        dsimp only [tYes]
        refine iteT ?_
        refine ⟨_, rfl, _, rfl, p, _, _, .int (Sv05Neutral.said (foldTo f t i)), rfl, rfl, s6.seq e5, ?_, ?_⟩
        · rw [Int.zero_add]
          exact atI_nat (hat i (by omega))
        refine ⟨_, rfl, _, rfl, _, rfl, _, _, rfl, rfl, p, _, _, .int (Sv05Neutral.said (foldTo f t (i + h))), rfl, rfl, s6.seq e5, ?_, ?_⟩
        · rw [Int.zero_add, hhalf, ← Int.natCast_add]
          exact atI_nat (hat (i + h) (by omega))
        refine ⟨_, _, _, rfl, ?_⟩
        refine ⟨_, e6, ?_, same_store hD s6, ?_⟩
        · rw [List.length_map, List.length_map, List.length_range]
          exact Nat.lt_of_le_of_lt (show i ≤ 8 by omega) (by decide)
        · rw [upd_same, List.range_succ, List.map_append, List.map_append, hst]
          rfl
      · rintro H2 ⟨s6, e6⟩
        rw [Int.toNat_natCast, ← hnew] at e6
        exact ⟨m - 1, by omega, t + 1, D, _, by omega, rfl, fun b x z => s6 b x (s5 b x z), SqL.of e6⟩
    · have t4 : t = 4 := by
        rcases Nat.lt_or_ge t 4 with z | z
        · refine absurd (decide_eq_true ?_) e
          rw [foldL_len]
          have : 2 ^ 1 ≤ 2 ^ (4 - t) := Nat.pow_le_pow_right (by decide) (by omega)
          omega
        · omega
      subst t4
      refine ⟨_, rfl, p, _, _, .int (Sv05Neutral.said (foldTo f 4 0)), rfl, rfl, e5, ?_, q H' s5⟩
      exact atI_nat (j := 0) (foldL_at (by decide))
/-! ### floats -/
theorem cut_is {w : List Int} {m k : Nat} (h : m * k + m ≤ w.length) : cutV (w.map V.int) (some ((m : Int) * (k : Int))) (some ((m : Int) * (k : Int) + (m : Int))) = ((w.drop (m * k)).take m).map V.int := by
  unfold cutV
  rw [← Int.natCast_mul, ← Int.natCast_add, HT.sIx_nat, HT.sIx_nat, List.length_map, Nat.min_eq_left (by omega), Nat.min_eq_left (by omega), Nat.add_sub_cancel_left, List.map_take, List.map_drop]
def spFloats (K : PySem.W.Frag) : Sp := fun vs H Q _ => ∃ (rows n : Int) (ax aw : Addr) (x w : List Int), vs = [.int rows, .int n, .ref ax, .ref aw] ∧
  SqL K H ax (x.map V.int) ∧ SqL K H aw (w.map V.int) ∧ PySv05.floats_asked rows n x w = true ∧
  ∀ (H' : Hp) (p : Addr), H' p = some (.lst ((PySv05.floats rows n x w).map V.int)) → Q (.ref p) H'
theorem sc_floats : FnScope ["rows", "n", "x", "w", "factors", "answer", "i", "weights"] ["rows", "n", "x", "w"] (defScope s_floats) := ⟨rfl, rfl, rfl, by decide +kernel, rfl, by decide +kernel, by decide +kernel⟩
theorem ok_floats (T : Txt K mg A) : FnOk P w K mg base CX0 7 A.f_floats A.d_floats ["rows", "n", "x", "w"] (spFloats K) := by
  have G1 : FnOk P w K mg base CX0 1 A.f_is_refused A.d_is_refused ["rows", "n"] spRef := ok_is_refused T
  have G2 : FnOk P w K mg base CX0 1 A.f_whole_blocks A.d_whole_blocks ["numbers"] (spPad K) := ok_whole_blocks T
  have G3 : FnOk P w K mg base CX0 6 A.f_sums_of_blocks A.d_sums_of_blocks ["x", "w"] (spSums K) := ok_sums_of_blocks T
  have G4 : FnOk P w K mg base CX0 4 A.f_folded A.d_folded ["sums"] (spFold K) := ok_folded T
  refine T.F_floats.ok sc_floats (fun vs H Q E h => ?_) (fun cdv A' outer s H vs Q E hr h => ?_)
  · obtain ⟨rows, n, ax, aw, x, w, rfl, _⟩ := h
    rfl
  · obtain ⟨rows, n, ax, aw, x, w, rfl, hX, hW, hask, q⟩ := h
    have hr1 : Room 1 _ := hr.mono (by decide)
    have hr4 : Room 4 _ := hr.mono (by decide)
    refine ⟨_, pss_cons (ps_if (pt_val (pe_call G1 hr1 (by rfl) T.g_is_refused T.F_is_refused.kp T.b_is_refused .nil pass0 (pa_cons (pv 0) (pa_cons (pv 1) pa_nil)))) (pss_one (ps_ret (pe_lst (pa_cons (pe_un un_neg pe_int) pa_nil)))) pss_nil)
      (pss_cons (ps_set (i := 4) sc_floats.nd rfl (.inl rfl) (pe_call G2 hr1 (by rfl) T.g_whole_blocks T.F_whole_blocks.kp T.b_whole_blocks .nil pass0 (pa_cons (pv 2) pa_nil)))
      (pss_cons (ps_set (i := 5) sc_floats.nd rfl (.inl rfl) (pe_lst (pa_cons pe_int pa_nil)))
      (pss_cons (ps_for PassesOwn.never rfl (pi_range1 (by rfl) T.z_range (pa_cons (pv 0) pa_nil)) (pg_name (i := 6) sc_floats.nd rfl (.inl rfl))
        (pss_cons (ps_set (i := 7) sc_floats.nd rfl (.inl rfl) (pe_call G2 hr1 (by rfl) T.g_whole_blocks T.F_whole_blocks.kp T.b_whole_blocks .nil pass0 (pa_cons (pe_slice sl_list (pv 3) (po_some (pe_op op_mul (pv 1) (pv 6))) (po_some (pe_op op_add (pe_op op_mul (pv 1) (pv 6)) (pv 1)))) pa_nil)))
        (pss_one (ps_expr (pe_bm PySem.F.plainAttrs_list PySem.F.slot_list_append PySem.F.type_list_append mt_append (pv 5) (pa_cons
            (pe_call G4 hr4 (by rfl) T.g_folded T.F_folded.kp T.b_folded .nil pass0 (pa_cons (pe_call G3 hr (by rfl) T.g_sums_of_blocks T.F_sums_of_blocks.kp T.b_sums_of_blocks .nil pass0 (pa_cons (pv 4) (pa_cons (pv 7) pa_nil))) pa_nil)) pa_nil))))))
      (pss_one (ps_ret (pv 5)))))), ?_⟩
    have ask : (Sv05Neutral.sizes rows n && (Sv05Neutral.many 65536 (Sv05.isSize rows.toNat n.toNat) n x && Sv05Neutral.many 65536 (Sv05.isSize rows.toNat n.toNat) (rows * n) w)) = true := hask
    rw [Bool.and_eq_true, Bool.and_eq_true] at ask
    obtain ⟨as, ax1, aw1⟩ := ask
    obtain ⟨h0, h1, hsz⟩ := sizes_iff as
    obtain ⟨bx, lx⟩ := many_iff ax1
    obtain ⟨bw, lw⟩ := many_iff aw1
    refine ⟨_, rfl, _, rfl, _, _, rfl, _, rfl, ite2 (fun e => ?_) (fun e => ?_)⟩
    · have e := of_decide_eq_true e
      refine ⟨1, rfl, (by show 1 ≤ sizeLine; decide), fun p hp => q _ p ?_⟩
      rw [floats_no h0 h1 e]
      exact upd_same
    · have e : ¬ (1024 < rows ∨ 65536 < n) := fun z => e (decide_eq_true z)
      have ey := (size_iff h0 h1).mpr e
      rw [ey, if_pos rfl] at lx lw
      obtain ⟨r, rfl⟩ : ∃ r : Nat, rows = (r : Int) := ⟨rows.toNat, by omega⟩
      obtain ⟨m, rfl⟩ : ∃ m : Nat, n = (m : Int) := ⟨n.toNat, by omega⟩
      have lx : x.length = m := by omega
      have lw : w.length = r * m := by
        have z : ((r * m : Nat) : Int) = (r : Int) * (m : Int) := Int.natCast_mul r m
        omega
      have hr0 : r ≤ 1024 := by omega
      have hm0 : m ≤ 500 := by omega
      have ans := floats_yes h0 h1 e (x := x) (w := w)
      rw [Int.toNat_natCast, Int.toNat_natCast] at ans
      have hB : (m + 31) / 32 < 17 := by omega
      -- factors
      refine ⟨_, rfl, ax, x, rfl, hX, (by omega), fun H0 p0 s0 n0 e0 => ?_⟩
      -- answer = [0]
      refine ⟨(by show 1 ≤ sizeLine; decide), fun p2 n2 => ?_⟩
      have s2 : Same H0 (upd H0 p2 (.lst [.int 0])) := same_upd n2
      refine ⟨_, rfl, (r : Int), rfl, by omega, by omega, ?_⟩
      refine for_range (lo := 0) (n := (r : Int).toNat) (fun k σ H' => ∃ v6 v7, σ = [some (.int r), some (.int m), some (.ref ax), some (.ref aw), some (.ref p0), some (.ref p2), v6, v7] ∧ Same H0 H' ∧
          H' p2 = some (.lst ((0 :: (List.range k).map (rowI x w m)).map V.int)))
        ⟨none, none, rfl, s2, upd_same⟩ ?_ ?_
      · rintro k σ H' hk ⟨v6, v7, rfl, s5, e5⟩
        have hk : k < r := by rw [Int.toNat_natCast] at hk; exact hk
        have hw : m * k + m ≤ w.length := by
          rw [lw]
          exact row_len hk
        have bwr : ∀ a ∈ (w.drop (m * k)).take m, 0 ≤ a ∧ a < 65536 := fun a ha => bw a (List.mem_of_mem_drop (List.mem_of_mem_take ha))
        have lwr : ((w.drop (m * k)).take m).length = m := by
          rw [List.length_take, List.length_drop]
          omega
        rw [Int.zero_add]
        refine ⟨_, rfl, _, rfl, _, rfl, _, _, rfl, rfl, .inl ⟨by omega, by omega⟩, _, rfl, _, rfl, _, rfl, _, _, rfl, rfl, .inl ⟨by omega, by omega⟩, _, rfl, _, _, rfl, rfl, _, rfl, aw, _, rfl, s5.seq (s0.seq hW), fun p6 n6 => ?_⟩
        rw [cut_is hw]
        have s6 := same_upd (o := .lst (((w.drop (m * k)).take m).map V.int)) n6
        refine ⟨p6, (w.drop (m * k)).take m, rfl, SqL.of upd_same, (by omega), fun H7 p7 s7 n7 e7 => ?_⟩
        refine ⟨_, rfl, .inl ⟨rfl, _, SqL.of (s7 _ _ (s6 _ _ e5))⟩, ?_⟩
        refine ⟨_, rfl, _, rfl, p0, p7, padI x, padI ((w.drop (m * k)).take m), (m + 31) / 32, rfl, SqL.of (s7 _ _ (s6 _ _ (s5 _ _ e0))), SqL.of e7, hB, (by rw [pad_len, lx]), (by rw [pad_len, lwr]), pad_within bx, pad_within bwr, fun H8 p8 s8 n8 e8 => ?_⟩
        have el : (fun j => laneO (padI x) (padI ((w.drop (m * k)).take m)) j ((m + 31) / 32)) = fun j => laneO x ((w.drop (m * k)).take m) j ((m + 31) / 32) := funext fun j => laneO_congr (gi_pad _) (gi_pad _) j _
        refine ⟨p8, fun j => laneO (padI x) (padI ((w.drop (m * k)).take m)) j ((m + 31) / 32), rfl, SqL.of e8, fun j => laneO_ok _ _ _ _, fun H9 s9 => ?_⟩
        rw [el]
        have e9 := s9 _ _ (s8 _ _ (s7 _ _ (s6 _ _ e5)))
        refine ⟨p2, _, _, rfl, rfl, e9, ?_, ?_⟩
        · rw [List.length_map, List.length_cons, List.length_map, List.length_range]
          exact Nat.lt_of_le_of_lt (show k + 1 ≤ 1024 by omega) (by decide)
        · refine ⟨_, _, rfl, same_store n2 (fun b y z => s9 _ _ (s8 _ _ (s7 _ _ (s6 _ _ (s5 _ _ z))))), ?_⟩
          rw [upd_same, List.range_succ, List.map_append, ← List.cons_append, List.map_append]
          rfl
      · rintro σ H' ⟨v6, v7, rfl, s5, e5⟩
        rw [Int.toNat_natCast, ← ans] at e5
        exact ⟨_, rfl, q H' p2 e5⟩

end
/-! ### the end -/
theorem all_mk {P : Program} {w : World} {K : PySem.W.Frag} {h : Heap} {mg : Str → Option Value} {fa f0 f1 f2 f3 f4 f5 f6 f7 f8 f9 f10 f11 f12 f13 f14 f15 : Addr} (X : K.In h) (G : h.Ns mainGlobals mg) (hfa : mg "floats" = some (.ref fa))
    {od0 an0 od1 an1 od2 an2 od3 an3 od4 an4 od5 an5 od6 an6 od7 an7 od8 an8 od9 an9 od10 an10 od11 an11 od12 an12 od13 an13 od14 an14 od15 an15 : Option Addr} {sl0 sl1 sl2 sl3 sl4 sl5 sl6 sl7 sl8 sl9 sl10 sl11 sl12 sl13 sl14 sl15 : Array (Option Value)} {oc0 kV0 dc0 pm0 cd0 ct0 oc1 kV1 dc1 pm1 cd1 ct1 oc2 kV2 dc2 pm2 cd2 ct2 oc3 kV3 dc3 pm3 cd3 ct3 oc4 kV4 dc4 pm4 cd4 ct4 oc5 kV5 dc5 pm5 cd5 ct5 oc6 kV6 dc6 pm6 cd6 ct6 oc7 kV7 dc7 pm7 cd7 ct7 oc8 kV8 dc8 pm8 cd8 ct8 oc9 kV9 dc9 pm9 cd9 ct9 oc10 kV10 dc10 pm10 cd10 ct10 oc11 kV11 dc11 pm11 cd11 ct11 oc12 kV12 dc12 pm12 cd12 ct12 oc13 kV13 dc13 pm13 cd13 ct13 oc14 kV14 dc14 pm14 cd14 ct14 oc15 kV15 dc15 pm15 cd15 ct15 : Value}
    {t0 t1 t2 t3 t4 t5 t6 t7 t8 t9 t10 : _}
    (a0 : PySem.W.nsIn K mainGlobals "is_refused" = some (some (.ref f0))) (l0 : K.lookup f0 = some ⟨oc0, od0, .func (PySem.W.fnOf "is_refused" "is_refused" (defArgs s_is_refused) (defBody s_is_refused) (defScope s_is_refused) .none kV0 dc0 pm0 an0 cd0 ct0), sl0⟩) (c0 : PySem.W.codeIn K cd0 "is_refused" = true) (k0 : PySem.W.keepIn K (.ref f0) = true)
    (a1 : PySem.W.nsIn K mainGlobals "is_nan" = some (some (.ref f1))) (l1 : K.lookup f1 = some ⟨oc1, od1, .func (PySem.W.fnOf "is_nan" "is_nan" (defArgs s_is_nan) (defBody s_is_nan) (defScope s_is_nan) .none kV1 dc1 pm1 an1 cd1 ct1), sl1⟩) (c1 : PySem.W.codeIn K cd1 "is_nan" = true) (k1 : PySem.W.keepIn K (.ref f1) = true)
    (a2 : PySem.W.nsIn K mainGlobals "is_infinite" = some (some (.ref f2))) (l2 : K.lookup f2 = some ⟨oc2, od2, .func (PySem.W.fnOf "is_infinite" "is_infinite" (defArgs s_is_infinite) (defBody s_is_infinite) (defScope s_is_infinite) .none kV2 dc2 pm2 an2 cd2 ct2), sl2⟩) (c2 : PySem.W.codeIn K cd2 "is_infinite" = true) (k2 : PySem.W.keepIn K (.ref f2) = true)
    (a3 : PySem.W.nsIn K mainGlobals "is_zero" = some (some (.ref f3))) (l3 : K.lookup f3 = some ⟨oc3, od3, .func (PySem.W.fnOf "is_zero" "is_zero" (defArgs s_is_zero) (defBody s_is_zero) (defScope s_is_zero) .none kV3 dc3 pm3 an3 cd3 ct3), sl3⟩) (c3 : PySem.W.codeIn K cd3 "is_zero" = true) (k3 : PySem.W.keepIn K (.ref f3) = true)
    (a4 : PySem.W.nsIn K mainGlobals "nearest_multiple" = some (some (.ref f4))) (l4 : K.lookup f4 = some ⟨oc4, od4, .func (PySem.W.fnOf "nearest_multiple" "nearest_multiple" (defArgs s_nearest_multiple) (defBody s_nearest_multiple) (defScope s_nearest_multiple) .none kV4 dc4 pm4 an4 cd4 ct4), sl4⟩) (c4 : PySem.W.codeIn K cd4 "nearest_multiple" = true) (k4 : PySem.W.keepIn K (.ref f4) = true)
    (a5 : PySem.W.nsIn K mainGlobals "sign_of_product" = some (some (.ref f5))) (l5 : K.lookup f5 = some ⟨oc5, od5, .func (PySem.W.fnOf "sign_of_product" "sign_of_product" (defArgs s_sign_of_product) (defBody s_sign_of_product) (defScope s_sign_of_product) .none kV5 dc5 pm5 an5 cd5 ct5), sl5⟩) (c5 : PySem.W.codeIn K cd5 "sign_of_product" = true) (k5 : PySem.W.keepIn K (.ref f5) = true)
    (a6 : PySem.W.nsIn K mainGlobals "exact" = some (some (.ref f6))) (l6 : K.lookup f6 = some ⟨oc6, od6, .func (PySem.W.fnOf "exact" "exact" (defArgs s_exact) (defBody s_exact) (defScope s_exact) .none kV6 dc6 pm6 an6 cd6 ct6), sl6⟩) (c6 : PySem.W.codeIn K cd6 "exact" = true) (k6 : PySem.W.keepIn K (.ref f6) = true)
    (a7 : PySem.W.nsIn K mainGlobals "rounded_single" = some (some (.ref f7))) (l7 : K.lookup f7 = some ⟨oc7, od7, .func (PySem.W.fnOf "rounded_single" "rounded_single" (defArgs s_rounded_single) (defBody s_rounded_single) (defScope s_rounded_single) .none kV7 dc7 pm7 an7 cd7 ct7), sl7⟩) (c7 : PySem.W.codeIn K cd7 "rounded_single" = true) (k7 : PySem.W.keepIn K (.ref f7) = true)
    (a8 : PySem.W.nsIn K mainGlobals "infinite_sum" = some (some (.ref f8))) (l8 : K.lookup f8 = some ⟨oc8, od8, .func (PySem.W.fnOf "infinite_sum" "infinite_sum" (defArgs s_infinite_sum) (defBody s_infinite_sum) (defScope s_infinite_sum) .none kV8 dc8 pm8 an8 cd8 ct8), sl8⟩) (c8 : PySem.W.codeIn K cd8 "infinite_sum" = true) (k8 : PySem.W.keepIn K (.ref f8) = true)
    (a9 : PySem.W.nsIn K mainGlobals "add_product" = some (some (.ref f9))) (l9 : K.lookup f9 = some ⟨oc9, od9, .func (PySem.W.fnOf "add_product" "add_product" (defArgs s_add_product) (defBody s_add_product) (defScope s_add_product) .none kV9 dc9 pm9 an9 cd9 ct9), sl9⟩) (c9 : PySem.W.codeIn K cd9 "add_product" = true) (k9 : PySem.W.keepIn K (.ref f9) = true)
    (a10 : PySem.W.nsIn K mainGlobals "take_step" = some (some (.ref f10))) (l10 : K.lookup f10 = some ⟨oc10, od10, .func (PySem.W.fnOf "take_step" "take_step" (defArgs s_take_step) (defBody s_take_step) (defScope s_take_step) .none kV10 dc10 pm10 an10 cd10 ct10), sl10⟩) (c10 : PySem.W.codeIn K cd10 "take_step" = true) (k10 : PySem.W.keepIn K (.ref f10) = true)
    (a11 : PySem.W.nsIn K mainGlobals "take_two_steps" = some (some (.ref f11))) (l11 : K.lookup f11 = some ⟨oc11, od11, .func (PySem.W.fnOf "take_two_steps" "take_two_steps" (defArgs s_take_two_steps) (defBody s_take_two_steps) (defScope s_take_two_steps) .none kV11 dc11 pm11 an11 cd11 ct11), sl11⟩) (c11 : PySem.W.codeIn K cd11 "take_two_steps" = true) (k11 : PySem.W.keepIn K (.ref f11) = true)
    (a12 : PySem.W.nsIn K mainGlobals "whole_blocks" = some (some (.ref f12))) (l12 : K.lookup f12 = some ⟨oc12, od12, .func (PySem.W.fnOf "whole_blocks" "whole_blocks" (defArgs s_whole_blocks) (defBody s_whole_blocks) (defScope s_whole_blocks) .none kV12 dc12 pm12 an12 cd12 ct12), sl12⟩) (c12 : PySem.W.codeIn K cd12 "whole_blocks" = true) (k12 : PySem.W.keepIn K (.ref f12) = true)
    (a13 : PySem.W.nsIn K mainGlobals "sums_of_blocks" = some (some (.ref f13))) (l13 : K.lookup f13 = some ⟨oc13, od13, .func (PySem.W.fnOf "sums_of_blocks" "sums_of_blocks" (defArgs s_sums_of_blocks) (defBody s_sums_of_blocks) (defScope s_sums_of_blocks) .none kV13 dc13 pm13 an13 cd13 ct13), sl13⟩) (c13 : PySem.W.codeIn K cd13 "sums_of_blocks" = true) (k13 : PySem.W.keepIn K (.ref f13) = true)
    (a14 : PySem.W.nsIn K mainGlobals "folded" = some (some (.ref f14))) (l14 : K.lookup f14 = some ⟨oc14, od14, .func (PySem.W.fnOf "folded" "folded" (defArgs s_folded) (defBody s_folded) (defScope s_folded) .none kV14 dc14 pm14 an14 cd14 ct14), sl14⟩) (c14 : PySem.W.codeIn K cd14 "folded" = true) (k14 : PySem.W.keepIn K (.ref f14) = true)
    (a15 : PySem.W.nsIn K mainGlobals "floats" = some (some (.ref f15))) (l15 : K.lookup f15 = some ⟨oc15, od15, .func (PySem.W.fnOf "floats" "floats" (defArgs s_floats) (defBody s_floats) (defScope s_floats) .none kV15 dc15 pm15 an15 cd15 ct15), sl15⟩) (c15 : PySem.W.codeIn K cd15 "floats" = true) (k15 : PySem.W.keepIn K (.ref f15) = true)
    (g0 : PySem.W.nsIn K mainGlobals "MOST_ROWS" = some (some (.int (1024) t0)))
    (g1 : PySem.W.nsIn K mainGlobals "MOST_NUMBERS" = some (some (.int (65536) t1)))
    (g2 : PySem.W.nsIn K mainGlobals "LANES" = some (some (.int (16) t2)))
    (g3 : PySem.W.nsIn K mainGlobals "BLOCK" = some (some (.int (32) t3)))
    (g4 : PySem.W.nsIn K mainGlobals "SPAN_16" = some (some (.int (65536) t4)))
    (g5 : PySem.W.nsIn K mainGlobals "SIGN" = some (some (.int (2147483648) t5)))
    (g6 : PySem.W.nsIn K mainGlobals "LEAST_NORMAL" = some (some (.int (8388608) t6)))
    (g7 : PySem.W.nsIn K mainGlobals "ONE" = some (some (.int (1065353216) t7)))
    (g8 : PySem.W.nsIn K mainGlobals "INFINITY" = some (some (.int (2139095040) t8)))
    (g9 : PySem.W.nsIn K mainGlobals "SINGLE_BITS" = some (some (.int (24) t9)))
    (g10 : PySem.W.nsIn K mainGlobals "NAN" = some (some (.int (-1) t10)))
    (z0 : PySem.W.nsIn K mainGlobals "abs" = some none)
    (z1 : PySem.W.nsIn K mainGlobals "len" = some none)
    (z2 : PySem.W.nsIn K mainGlobals "max" = some none)
    (z3 : PySem.W.nsIn K mainGlobals "min" = some none)
    (z4 : PySem.W.nsIn K mainGlobals "range" = some none)
    : ∃ fd : FuncData, (∀ (s : Shared) (us : List Value), us.length = (["rows", "n", "x", "w"] : List Str).length → BindsTo s fd ⟨us, []⟩ ((["rows", "n", "x", "w"] : List Str).zip us)) ∧ ∀ base : Heap, K.In base → base.Ns mainGlobals mg → FnOk P w K mg base CX0 7 fa fd ["rows", "n", "x", "w"] (spFloats K) := by
  have e := hfa.symm.trans (PySem.W.mg_of X G a15)
  cases e
  have F0 := fun_mk (st := s_is_refused) l0 c0 k0
  have b0 := F0.binds (ps := ["rows", "n"]) fun _ _ _ _ _ _ us hl => match us, hl with | [_, _], _ => rfl
  have F1 := fun_mk (st := s_is_nan) l1 c1 k1
  have b1 := F1.binds (ps := ["single"]) fun _ _ _ _ _ _ us hl => match us, hl with | [_], _ => rfl
  have F2 := fun_mk (st := s_is_infinite) l2 c2 k2
  have b2 := F2.binds (ps := ["single"]) fun _ _ _ _ _ _ us hl => match us, hl with | [_], _ => rfl
  have F3 := fun_mk (st := s_is_zero) l3 c3 k3
  have b3 := F3.binds (ps := ["single"]) fun _ _ _ _ _ _ us hl => match us, hl with | [_], _ => rfl
  have F4 := fun_mk (st := s_nearest_multiple) l4 c4 k4
  have b4 := F4.binds (ps := ["number", "unit"]) fun _ _ _ _ _ _ us hl => match us, hl with | [_, _], _ => rfl
  have F5 := fun_mk (st := s_sign_of_product) l5 c5 k5
  have b5 := F5.binds (ps := ["p", "q"]) fun _ _ _ _ _ _ us hl => match us, hl with | [_, _], _ => rfl
  have F6 := fun_mk (st := s_exact) l6 c6 k6
  have b6 := F6.binds (ps := ["single"]) fun _ _ _ _ _ _ us hl => match us, hl with | [_], _ => rfl
  have F7 := fun_mk (st := s_rounded_single) l7 c7 k7
  have b7 := F7.binds (ps := ["total"]) fun _ _ _ _ _ _ us hl => match us, hl with | [_], _ => rfl
  have F8 := fun_mk (st := s_infinite_sum) l8 c8 k8
  have b8 := F8.binds (ps := ["single", "p", "q"]) fun _ _ _ _ _ _ us hl => match us, hl with | [_, _, _], _ => rfl
  have F9 := fun_mk (st := s_add_product) l9 c9 k9
  have b9 := F9.binds (ps := ["single", "p", "q"]) fun _ _ _ _ _ _ us hl => match us, hl with | [_, _, _], _ => rfl
  have F10 := fun_mk (st := s_take_step) l10 c10 k10
  have b10 := F10.binds (ps := ["single", "p", "q"]) fun _ _ _ _ _ _ us hl => match us, hl with | [_, _, _], _ => rfl
  have F11 := fun_mk (st := s_take_two_steps) l11 c11 k11
  have b11 := F11.binds (ps := ["single", "x", "w", "at"]) fun _ _ _ _ _ _ us hl => match us, hl with | [_, _, _, _], _ => rfl
  have F12 := fun_mk (st := s_whole_blocks) l12 c12 k12
  have b12 := F12.binds (ps := ["numbers"]) fun _ _ _ _ _ _ us hl => match us, hl with | [_], _ => rfl
  have F13 := fun_mk (st := s_sums_of_blocks) l13 c13 k13
  have b13 := F13.binds (ps := ["x", "w"]) fun _ _ _ _ _ _ us hl => match us, hl with | [_, _], _ => rfl
  have F14 := fun_mk (st := s_folded) l14 c14 k14
  have b14 := F14.binds (ps := ["sums"]) fun _ _ _ _ _ _ us hl => match us, hl with | [_], _ => rfl
  have F15 := fun_mk (st := s_floats) l15 c15 k15
  have b15 := F15.binds (ps := ["rows", "n", "x", "w"]) fun _ _ _ _ _ _ us hl => match us, hl with | [_, _, _, _], _ => rfl
  have T : Txt K mg ⟨_, _, _, _, _, _, _, _, _, _, _, _, _, _, _, _, _, _, _, _, _, _, _, _, _, _, _, _, _, _, _, _⟩ := ⟨F0, b0, PySem.W.mg_of X G a0, F1, b1, PySem.W.mg_of X G a1, F2, b2, PySem.W.mg_of X G a2, F3, b3, PySem.W.mg_of X G a3, F4, b4, PySem.W.mg_of X G a4, F5, b5, PySem.W.mg_of X G a5, F6, b6, PySem.W.mg_of X G a6, F7, b7, PySem.W.mg_of X G a7, F8, b8, PySem.W.mg_of X G a8, F9, b9, PySem.W.mg_of X G a9, F10, b10, PySem.W.mg_of X G a10, F11, b11, PySem.W.mg_of X G a11, F12, b12, PySem.W.mg_of X G a12, F13, b13, PySem.W.mg_of X G a13, F14, b14, PySem.W.mg_of X G a14, F15, b15, PySem.W.mg_of X G a15, ⟨_, PySem.W.mg_of X G g0⟩, ⟨_, PySem.W.mg_of X G g1⟩, ⟨_, PySem.W.mg_of X G g2⟩, ⟨_, PySem.W.mg_of X G g3⟩, ⟨_, PySem.W.mg_of X G g4⟩, ⟨_, PySem.W.mg_of X G g5⟩, ⟨_, PySem.W.mg_of X G g6⟩, ⟨_, PySem.W.mg_of X G g7⟩, ⟨_, PySem.W.mg_of X G g8⟩, ⟨_, PySem.W.mg_of X G g9⟩, ⟨_, PySem.W.mg_of X G g10⟩, PySem.W.mg_none_of X G z0, PySem.W.mg_none_of X G z1, PySem.W.mg_none_of X G z2, PySem.W.mg_none_of X G z3, PySem.W.mg_none_of X G z4⟩
  exact ⟨_, fun s us hu => match us, hu with | [_, _, _, _], _ => .of_eq rfl, fun base _ _ => ok_floats T⟩
end Sp
open PySem PySem.W PyProof.Rows
set_option maxRecDepth 100000 in
set_option maxHeartbeats 8000000 in
theorem PySem.Challenge.cw_smallproducts_s07_floats_holds : PySem.Challenge.rw_smallproducts_s07_floats.Holds := by
  w_on; k_headS; (case hw => exact ⟨[.int 0, .int 0, .list [], .list []], by decide +kernel, by decide +kernel⟩)
  k_fillS
  refine L2.walk_specK (r := PySem.Challenge.rw_smallproducts_s07_floats) (k := 7) (CX := L2.CX0) (ps := ["rows", "n", "x", "w"]) (sp := Sp.spFloats) (by decide +kernel) rfl rfl ⟨rfl, by decide, by decide⟩ (fun w h Y => PySem.W.kIn_of Y) ?F ?S (fun _ _ _ _ z => z)
  case F =>
    intro w mg fa h Y KX G hmg
    refine' Sp.all_mk KX G hmg ?my_a0 ?my_l0 ?my_c0 ?my_k0 ?my_a1 ?my_l1 ?my_c1 ?my_k1 ?my_a2 ?my_l2 ?my_c2 ?my_k2 ?my_a3 ?my_l3 ?my_c3 ?my_k3 ?my_a4 ?my_l4 ?my_c4 ?my_k4 ?my_a5 ?my_l5 ?my_c5 ?my_k5 ?my_a6 ?my_l6 ?my_c6 ?my_k6 ?my_a7 ?my_l7 ?my_c7 ?my_k7 ?my_a8 ?my_l8 ?my_c8 ?my_k8 ?my_a9 ?my_l9 ?my_c9 ?my_k9 ?my_a10 ?my_l10 ?my_c10 ?my_k10 ?my_a11 ?my_l11 ?my_c11 ?my_k11 ?my_a12 ?my_l12 ?my_c12 ?my_k12 ?my_a13 ?my_l13 ?my_c13 ?my_k13 ?my_a14 ?my_l14 ?my_c14 ?my_k14 ?my_a15 ?my_l15 ?my_c15 ?my_k15 ?my_g0 ?my_g1 ?my_g2 ?my_g3 ?my_g4 ?my_g5 ?my_g6 ?my_g7 ?my_g8 ?my_g9 ?my_g10 ?my_z0 ?my_z1 ?my_z2 ?my_z3 ?my_z4
    (case my_a0 => k_is)
    (case my_l0 => k_is)
    (case my_c0 => k_is)
    (case my_k0 => k_is)
    (case my_a1 => k_is)
    (case my_l1 => k_is)
    (case my_c1 => k_is)
    (case my_k1 => k_is)
    (case my_a2 => k_is)
    (case my_l2 => k_is)
    (case my_c2 => k_is)
    (case my_k2 => k_is)
    (case my_a3 => k_is)
    (case my_l3 => k_is)
    (case my_c3 => k_is)
    (case my_k3 => k_is)
    (case my_a4 => k_is)
    (case my_l4 => k_is)
    (case my_c4 => k_is)
    (case my_k4 => k_is)
    (case my_a5 => k_is)
    (case my_l5 => k_is)
    (case my_c5 => k_is)
    (case my_k5 => k_is)
    (case my_a6 => k_is)
    (case my_l6 => k_is)
    (case my_c6 => k_is)
    (case my_k6 => k_is)
    (case my_a7 => k_is)
    (case my_l7 => k_is)
    (case my_c7 => k_is)
    (case my_k7 => k_is)
    (case my_a8 => k_is)
    (case my_l8 => k_is)
    (case my_c8 => k_is)
    (case my_k8 => k_is)
    (case my_a9 => k_is)
    (case my_l9 => k_is)
    (case my_c9 => k_is)
    (case my_k9 => k_is)
    (case my_a10 => k_is)
    (case my_l10 => k_is)
    (case my_c10 => k_is)
    (case my_k10 => k_is)
    (case my_a11 => k_is)
    (case my_l11 => k_is)
    (case my_c11 => k_is)
    (case my_k11 => k_is)
    (case my_a12 => k_is)
    (case my_l12 => k_is)
    (case my_c12 => k_is)
    (case my_k12 => k_is)
    (case my_a13 => k_is)
    (case my_l13 => k_is)
    (case my_c13 => k_is)
    (case my_k13 => k_is)
    (case my_a14 => k_is)
    (case my_l14 => k_is)
    (case my_c14 => k_is)
    (case my_k14 => k_is)
    (case my_a15 => k_is)
    (case my_l15 => k_is)
    (case my_c15 => k_is)
    (case my_k15 => k_is)
    (case my_g0 => k_is)
    (case my_g1 => k_is)
    (case my_g2 => k_is)
    (case my_g3 => k_is)
    (case my_g4 => k_is)
    (case my_g5 => k_is)
    (case my_g6 => k_is)
    (case my_g7 => k_is)
    (case my_g8 => k_is)
    (case my_g9 => k_is)
    (case my_g10 => k_is)
    (case my_z0 => k_is)
    (case my_z1 => k_is)
    (case my_z2 => k_is)
    (case my_z3 => k_is)
    (case my_z4 => k_is)
  case S =>
    intro K H xs a hO hwi hask hx
    obtain ⟨rows, n, x, w, u⟩ := a
    cases hx with
    | cons h1 hx =>
    cases hx with
    | cons h2 hx =>
    cases hx with
    | cons h3 hx =>
    cases hx with
    | cons h4 hx =>
    cases hx
    cases h1
    cases h2
    cases h3 with
    | lst s3 d3 =>
    cases h4 with
    | lst s4 d4 =>
    have e3 := L2.ints_dw x _ d3
    have e4 := L2.ints_dw w _ d4
    subst e3 e4
    exact ⟨_, _, _, _, x, w, rfl, s3, s4, hask, fun H' p hp => .lst (L2.SqL.of hp) (L2.dw_ints _)⟩
#print axioms PySem.Challenge.cw_smallproducts_s07_floats_holds

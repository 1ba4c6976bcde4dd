import PyProof.Rows.All
import Wide.All
import OpenK.AllK
import Wide.FinOn
import Open.SpecLaws
import KE.OsGo
import HandS.ForSpec
import HandS.Comp
import HandS.Wide
import HandS.WideBits
import HandS.Text
import PySem.Challenge.RW_smallproducts_s05_short
set_option Elab.async false
set_option linter.all false
set_option maxRecDepth 100000
set_option maxHeartbeats 2000000
namespace Sp
/-! ### the mathematics: plain lists and numbers -/
def ws (b sp : Int) : Int := if sp ≤ 2 * b then b - sp else b
def hold (x : Int) : Int := max (-2147483648) (min 2147483647 x)
def gi (l : List Int) (j : Nat) : Int := l.getD j 0
def upto (F : Nat → Int) : Nat → Int
  | 0 => 0
  | k + 1 => upto F k + F k
def dot (xs ws : List Int) (n i : Nat) : Int := upto (fun j => gi xs j * gi ws (n * i + j)) n
theorem upto_congr {F G : Nat → Int} : ∀ {n : Nat}, (∀ k, k < n → F k = G k) → upto F n = upto G n
  | 0, _ => rfl
  | n + 1, h => by
    show upto F n + F n = upto G n + G n
    rw [upto_congr (fun k hk => h k (Nat.lt_succ_of_lt hk)), h n (Nat.lt_succ_self n)]
theorem total_take (l : List Int) (F : Nat → Int) (h : ∀ k, k < l.length → l[k]? = some (F k)) : ∀ n, n ≤ l.length → Sv05.total (l.take n) = upto F n
  | 0, _ => rfl
  | n + 1, hn => by
    have e : l.take (n + 1) = l.take n ++ [F n] := by
      rw [List.take_add_one, h n hn]
      rfl
    have ih := total_take l F h n (Nat.le_of_succ_le hn)
    unfold Sv05.total at ih ⊢
    rw [e, List.foldl_append, ih]
    rfl
theorem total_is {l : List Int} {F : Nat → Int} {n : Nat} (hl : l.length = n) (h : ∀ k, k < n → l[k]? = some (F k)) : Sv05.total l = upto F n := by
  subst hl
  have q := total_take l F h l.length (Nat.le_refl _)
  rw [List.take_length] at q
  exact q
theorem gi_get {l : List Int} {j : Nat} (h : j < l.length) : l[j]? = some (gi l j) := by
  unfold gi
  rw [List.getElem?_eq_getElem h, List.getD_eq_getElem?_getD, List.getElem?_eq_getElem h]
  rfl
theorem gi_mem {l : List Int} {j : Nat} (h : j < l.length) : gi l j ∈ l := by
  have e := gi_get h
  exact List.mem_of_getElem? e
theorem gi_map {f : Int → Int} {l : List Int} {j : Nat} (h : j < l.length) : gi (l.map f) j = f (gi l j) := by
  have e := gi_get (l := l.map f) (j := j) (by rw [List.length_map]; exact h)
  rw [List.getElem?_map, gi_get h] at e
  exact (Option.some.inj e).symm
theorem row_len {n i r : Nat} (hi : i < r) : n * i + n ≤ r * n := by
  have h : n * (i + 1) ≤ n * r := Nat.mul_le_mul_left n hi
  rw [Nat.mul_succ, Nat.mul_comm n r] at h
  exact h
/-- the specification's row, element by element -/
theorem zip_dot {xs ys : List Int} {n r i : Nat} (g : Nat × Nat → Int) (p q : Int → Int) (hx : xs.length = n) (hy : ys.length = r * n) (hi : i < r)
    (hg : ∀ a ∈ xs, ∀ b ∈ ys, g (a.toNat, b.toNat) = p a * q b) :
    Sv05.total (((Sv05Neutral.n xs).zip (Sv05.weights (Sv05Neutral.n ys) n i)).map g) = dot (xs.map p) (ys.map q) n i := by
  have hb := row_len (n := n) hi
  have lw : (Sv05.weights (Sv05Neutral.n ys) n i).length = n := by
    unfold Sv05.weights Sv05Neutral.n
    rw [List.length_take, List.length_drop, List.length_map, hy]
    omega
  have lx : (Sv05Neutral.n xs).length = n := by
    unfold Sv05Neutral.n
    rw [List.length_map, hx]
  refine total_is (by rw [List.length_map, List.length_zip, lw, lx, Nat.min_self]) fun k hk => ?_
  have k1 : k < xs.length := by omega
  have k2 : n * i + k < ys.length := by omega
  have e1 : (Sv05Neutral.n xs)[k]? = some (gi xs k).toNat := by
    unfold Sv05Neutral.n
    rw [List.getElem?_map, gi_get k1]
    rfl
  have e2 : (Sv05.weights (Sv05Neutral.n ys) n i)[k]? = some (gi ys (n * i + k)).toNat := by
    unfold Sv05.weights Sv05Neutral.n
    rw [List.getElem?_take_of_lt hk, List.getElem?_drop, List.getElem?_map, gi_get k2]
    rfl
  have e3 : ((Sv05Neutral.n xs).zip (Sv05.weights (Sv05Neutral.n ys) n i))[k]? = some ((gi xs k).toNat, (gi ys (n * i + k)).toNat) := List.getElem?_zip_eq_some.mpr ⟨e1, e2⟩
  rw [List.getElem?_map, e3, gi_map k1, gi_map k2]
  show some (g _) = _
  rw [hg _ (gi_mem k1) _ (gi_mem k2)]
theorem signed_is {w : Nat} {b : Int} (hw : 0 < w) (h0 : 0 ≤ b) (h1 : b < 2 ^ w) : Sv05.signed w b.toNat = ws b (2 ^ w) := by
  obtain ⟨v, rfl⟩ : ∃ v, w = v + 1 := ⟨w - 1, by omega⟩
  obtain ⟨m, rfl⟩ : ∃ m : Nat, b = (m : Int) := ⟨b.toNat, by omega⟩
  have h1' : m < 2 ^ (v + 1) := by
    have : (m : Int) < ((2 ^ (v + 1) : Nat) : Int) := by rw [Int.natCast_pow]; exact h1
    omega
  have e : ((2 : Int) ^ (v + 1)) = ((2 ^ (v + 1) : Nat) : Int) := by rw [Int.natCast_pow]; rfl
  unfold Sv05.signed ws
  rw [e, Int.toNat_natCast, Nat.mod_eq_of_lt h1', Nat.add_sub_cancel]
  have p : 2 ^ (v + 1) = 2 * 2 ^ v := by rw [Nat.pow_succ, Nat.mul_comm]
  rw [p] at h1' ⊢
  by_cases c : m < 2 ^ v
  · rw [if_pos c, if_neg (by omega)]
  · rw [if_neg c, if_pos (by omega)]
theorem signed8 {b : Int} (h : 0 ≤ b ∧ b < 256) : Sv05.signed 8 b.toNat = ws b 256 := signed_is (w := 8) (by decide) h.1 h.2
theorem signed16 {b : Int} (h : 0 ≤ b ∧ b < 65536) : Sv05.signed 16 b.toNat = ws b 65536 := signed_is (w := 16) (by decide) h.1 h.2
theorem signed32 {b : Int} (h : 0 ≤ b ∧ b < 4294967296) : Sv05.signed 32 b.toNat = ws b 4294967296 := signed_is (w := 32) (by decide) h.1 h.2
theorem unsigned_is (w : Nat) (x : Int) : ((Sv05.unsigned w x : Nat) : Int) = x % (2 ^ w : Nat) := by
  unfold Sv05.unsigned
  have h : (0 : Int) < ((2 ^ w : Nat) : Int) := by
    have := Nat.two_pow_pos w
    omega
  exact Int.toNat_of_nonneg (Int.emod_nonneg _ (by omega))
theorem below_iff {top : Int} {l : List Int} (h : Sv05Neutral.below top l = true) : ∀ a ∈ l, 0 ≤ a ∧ a < top := by
  intro a ha
  unfold Sv05Neutral.below at h
  have q := List.all_eq_true.mp h a ha
  rw [Bool.and_eq_true, decide_eq_true_eq, decide_eq_true_eq] at q
  exact q
theorem many_iff {top k : Int} {yes : Bool} {l : List Int} (h : Sv05Neutral.many top yes k l = true) : (∀ a ∈ l, 0 ≤ a ∧ a < top) ∧ (l.length : Int) = if yes = true then k else 0 := by
  unfold Sv05Neutral.many at h
  rw [Bool.and_eq_true, decide_eq_true_eq] at h
  exact ⟨below_iff h.1, h.2⟩
theorem size_iff {r n : Int} (h0 : 0 ≤ r) (h1 : 0 ≤ n) : Sv05.isSize r.toNat n.toNat = true ↔ ¬ (1024 < r ∨ 65536 < n) := by
  unfold Sv05.isSize
  rw [Bool.and_eq_true, decide_eq_true_eq, decide_eq_true_eq]
  omega
theorem sizes_iff {r n : Int} (h : Sv05Neutral.sizes r n = true) : 0 ≤ r ∧ 0 ≤ n ∧ ((r ≤ 8 ∧ n ≤ 500) ∨ (r ≤ 1024 ∧ n = 0) ∨ 1024 < r ∨ 65536 < n) := by
  unfold Sv05Neutral.sizes at h
  rw [Bool.and_eq_true, Bool.or_eq_true, Bool.or_eq_true, decide_eq_true_eq, decide_eq_true_eq] at h
  obtain ⟨hb, hc⟩ := h
  have b := below_iff hb
  have h0 := (b r (by simp)).1
  have h1 := (b n (by simp)).1
  refine ⟨h0, h1, ?_⟩
  rcases hc with h | h | h
  · exact .inl h
  · exact .inr (.inl h)
  · have : ¬ Sv05.isSize r.toNat n.toNat = true := by
      intro q
      rw [q] at h
      cases h
    rw [size_iff h0 h1] at this
    omega
/-! the two answers -/
def bRow (n : Nat) (x w bias : List Int) (i : Nat) : Int := hold (ws (gi bias i) 4294967296 + dot x (w.map fun b => ws b 256) n i) % 4294967296
def wRow (n : Nat) (x w : List Int) (i : Nat) : Int := dot (x.map fun b => ws b 65536) (w.map fun b => ws b 65536) n i % 18446744073709551616
theorem at_is {l : List Int} {i : Nat} (h : i < l.length) : Sv05.at_ (Sv05Neutral.n l) i = (gi l i).toNat := by
  unfold Sv05.at_ Sv05Neutral.n
  rw [List.getD_eq_getElem?_getD, List.getElem?_map, gi_get h]
  rfl
theorem held_is (x : Int) : Sv05.held x = hold x := rfl
theorem bytes_no {rows n : Int} {x w bias : List Int} (h0 : 0 ≤ rows) (h1 : 0 ≤ n) (h : 1024 < rows ∨ 65536 < n) : PySv05.bytes_of rows n x w bias = [-1] := by
  show (let y := Sv05.does (.bytes (Sv05Neutral.n x) (Sv05Neutral.n w) (Sv05Neutral.n bias) rows.toNat n.toNat); (match y.code with | some z => [z] | none => []) ++ y.l.map Sv05Neutral.said) = [-1]
  unfold Sv05.does
  have e : ¬ Sv05.isSize rows.toNat n.toNat = true := fun q => (size_iff h0 h1).mp q h
  simp only [if_neg e]
  rfl
theorem bytes_yes {rows n : Int} {x w bias : List Int} (h0 : 0 ≤ rows) (h1 : 0 ≤ n) (h : ¬ (1024 < rows ∨ 65536 < n)) (hx : x.length = n.toNat) (hw : w.length = rows.toNat * n.toNat) (hb : bias.length = rows.toNat)
    (bx : ∀ a ∈ x, 0 ≤ a ∧ a < 256) (bw : ∀ a ∈ w, 0 ≤ a ∧ a < 256) (bb : ∀ a ∈ bias, 0 ≤ a ∧ a < 4294967296) :
    PySv05.bytes_of rows n x w bias = 0 :: (List.range rows.toNat).map (bRow n.toNat x w bias) := by
  show (let y := Sv05.does (.bytes (Sv05Neutral.n x) (Sv05Neutral.n w) (Sv05Neutral.n bias) rows.toNat n.toNat); (match y.code with | some z => [z] | none => []) ++ y.l.map Sv05Neutral.said) = _
  unfold Sv05.does
  have e : Sv05.isSize rows.toNat n.toNat = true := (size_iff h0 h1).mpr h
  simp only [if_pos e]
  unfold Sv05.code
  simp only [List.map_map]
  refine congrArg (List.cons 0) (List.map_congr_left fun i hi => ?_)
  have hi := List.mem_range.mp hi
  show ((Sv05.unsigned 32 _ : Nat) : Int) = _
  rw [unsigned_is, held_is, at_is (by omega), signed32 (bb _ (gi_mem (by omega))), zip_dot (p := fun a => a) (q := fun b => ws b 256) _ hx hw hi (fun a ha b hb => by
    show ((a.toNat : Nat) : Int) * Sv05.signed 8 b.toNat = _
    rw [signed8 (bw b hb), Int.toNat_of_nonneg (bx a ha).1]), List.map_id']
  rfl
theorem words_no {rows n : Int} {x w : List Int} (h0 : 0 ≤ rows) (h1 : 0 ≤ n) (h : 1024 < rows ∨ 65536 < n) : PySv05.words rows n x w = [-1] := by
  show (let y := Sv05.does (.words (Sv05Neutral.n x) (Sv05Neutral.n w) rows.toNat n.toNat); (match y.code with | some z => [z] | none => []) ++ y.l.map Sv05Neutral.said) = [-1]
  unfold Sv05.does
  have e : ¬ Sv05.isSize rows.toNat n.toNat = true := fun q => (size_iff h0 h1).mp q h
  simp only [if_neg e]
  rfl
theorem words_yes {rows n : Int} {x w : List Int} (h0 : 0 ≤ rows) (h1 : 0 ≤ n) (h : ¬ (1024 < rows ∨ 65536 < n)) (hx : x.length = n.toNat) (hw : w.length = rows.toNat * n.toNat)
    (bx : ∀ a ∈ x, 0 ≤ a ∧ a < 65536) (bw : ∀ a ∈ w, 0 ≤ a ∧ a < 65536) :
    PySv05.words rows n x w = 0 :: (List.range rows.toNat).map (wRow n.toNat x w) := by
  show (let y := Sv05.does (.words (Sv05Neutral.n x) (Sv05Neutral.n w) rows.toNat n.toNat); (match y.code with | some z => [z] | none => []) ++ y.l.map Sv05Neutral.said) = _
  unfold Sv05.does
  have e : Sv05.isSize rows.toNat n.toNat = true := (size_iff h0 h1).mpr h
  simp only [if_pos e]
  unfold Sv05.code
  simp only [List.map_map]
  refine congrArg (List.cons 0) (List.map_congr_left fun i hi => ?_)
  have hi := List.mem_range.mp hi
  show ((Sv05.unsigned 64 _ : Nat) : Int) = _
  rw [unsigned_is, zip_dot (p := fun b => ws b 65536) (q := fun b => ws b 65536) _ hx hw hi (fun a ha b hb => by
    show Sv05.signed 16 a.toNat * Sv05.signed 16 b.toNat = _
    rw [signed16 (bw b hb), signed16 (bx a ha)])]
  rfl
end Sp
namespace Sp
/-! ### scale and sum, in whole numbers -/
theorem at_all (l : List Int) (i : Nat) : Sv05.at_ (Sv05Neutral.n l) i = (gi l i).toNat := by
  by_cases h : i < l.length
  · exact at_is h
  · unfold Sv05.at_ Sv05Neutral.n gi
    rw [List.getD_eq_getElem?_getD, List.getD_eq_getElem?_getD, List.getElem?_map, List.getElem?_eq_none (by omega)]
    rfl
theorem gi_within {l : List Int} {top : Int} (ht : 0 < top) (h : ∀ a ∈ l, 0 ≤ a ∧ a < top) (i : Nat) : 0 ≤ gi l i ∧ gi l i < top := by
  by_cases c : i < l.length
  · exact h _ (gi_mem c)
  · unfold gi
    rw [List.getD_eq_getElem?_getD, List.getElem?_eq_none (by omega)]
    exact ⟨Int.le_refl 0, ht⟩
def scaleI (m s z x : Int) : Int := max 0 (min 255 (z + (2 * (ws x 4294967296 * m) + 2 ^ s.toNat) / (2 * 2 ^ s.toNat)))
def scaleOk (n s z : Int) : Prop := n ≤ 65536 ∧ 0 ≤ s ∧ s ≤ 62 ∧ 0 ≤ z ∧ z ≤ 255
theorem scale_asked_iff {n m s z : Int} {l : List Int} (h : PySv05.scale_asked n m s z l = true) : 0 ≤ n ∧ (n ≤ 500 ∨ 65536 < n) ∧ (-2147483648 ≤ m ∧ m < 2147483648) ∧ (-2147483648 ≤ s ∧ s < 2147483648) ∧ (-2147483648 ≤ z ∧ z < 2147483648) ∧
    (∀ a ∈ l, 0 ≤ a ∧ a < 4294967296) ∧ (l.length : Int) = if n ≤ 65536 then n else 0 := by
  have h : (Sv05Neutral.below (2 ^ 32) [n] && ((decide (n ≤ 500) || decide (65536 < n)) && (Sv05Neutral.whole32 m && (Sv05Neutral.whole32 s && (Sv05Neutral.whole32 z && Sv05Neutral.many (2 ^ 32) (decide (n ≤ 65536)) n l))))) = true := h
  simp only [Bool.and_eq_true, Bool.or_eq_true, decide_eq_true_eq, Sv05Neutral.whole32] at h
  obtain ⟨h1, h2, h3, h4, h5, h6⟩ := h
  obtain ⟨h7, h8⟩ := many_iff h6
  simp only [decide_eq_true_eq] at h8
  exact ⟨(below_iff h1 n (by simp)).1, h2, h3, h4, h5, h7, h8⟩
theorem scale_no {n m s z : Int} {l : List Int} (h0 : 0 ≤ n) (h : ¬ scaleOk n s z) : PySv05.scale n m s z l = [-1] := by
  show (let y := Sv05.does (.scale (Sv05Neutral.n l) n.toNat m s z); (match y.code with | some z => [z] | none => []) ++ y.l.map Sv05Neutral.said) = [-1]
  unfold Sv05.does
  have e : ¬ (n.toNat ≤ 65536 ∧ 0 ≤ s ∧ s ≤ 62 ∧ 0 ≤ z ∧ z ≤ 255) := fun q => h ⟨by omega, q.2⟩
  simp only [if_neg e]
  rfl
theorem scale_yes {n m s z : Int} {l : List Int} (h0 : 0 ≤ n) (h : scaleOk n s z) (hl : ∀ a ∈ l, 0 ≤ a ∧ a < 4294967296) : PySv05.scale n m s z l = 0 :: l.map (scaleI m s z) := by
  show (let y := Sv05.does (.scale (Sv05Neutral.n l) n.toNat m s z); (match y.code with | some z => [z] | none => []) ++ y.l.map Sv05Neutral.said) = _
  unfold Sv05.does
  have e : n.toNat ≤ 65536 ∧ 0 ≤ s ∧ s ≤ 62 ∧ 0 ≤ z ∧ z ≤ 255 := ⟨by have := h.1; omega, h.2⟩
  simp only [if_pos e]
  unfold Sv05.code Sv05Neutral.n
  simp only [List.map_map]
  refine congrArg (List.cons 0) (List.map_congr_left fun x hx => ?_)
  show (((max 0 (min 255 (z + Sv05.nearest (Sv05.signed 32 x.toNat * m) s.toNat))).toNat : Nat) : Int) = _
  rw [Int.toNat_of_nonneg (by omega), signed32 (hl x hx)]
  unfold Sv05.nearest scaleI
  rw [Int.natCast_pow]
  rfl
/-! lanes -/
theorem lanes_iff {l : List Int} (h : Sv05Neutral.lanes l = true) : (∀ a ∈ l, 0 ≤ a ∧ a < 4294967296) ∧ l.length ≤ 16 := by
  unfold Sv05Neutral.lanes at h
  rw [Bool.and_eq_true, decide_eq_true_eq] at h
  exact ⟨below_iff h.1, h.2⟩
def partI (bits : Nat) (x : Int) (i : Nat) : Int := x / 2 ^ (bits * i) % 2 ^ bits
theorem part_is {bits i : Nat} {x : Int} (h : 0 ≤ x) : ((Sv05.part bits x.toNat i : Nat) : Int) = partI bits x i := by
  obtain ⟨m, rfl⟩ : ∃ m : Nat, x = (m : Int) := ⟨x.toNat, by omega⟩
  unfold Sv05.part partI
  rw [Int.toNat_natCast, Int.natCast_emod, Int.natCast_ediv, Int.natCast_pow, Int.natCast_pow]
  rfl
theorem partI_within (bits i : Nat) (x : Int) : 0 ≤ partI bits x i ∧ partI bits x i < 2 ^ bits := by
  have h : (0 : Int) < 2 ^ bits := by
    have := Nat.two_pow_pos bits
    have e : ((2 : Int) ^ bits) = ((2 ^ bits : Nat) : Int) := by rw [Int.natCast_pow]; rfl
    omega
  exact ⟨Int.emod_nonneg _ (by omega), Int.emod_lt_of_pos _ h⟩
theorem signed_part {bits i : Nat} {x : Int} (hb : 0 < bits) (h : 0 ≤ x) : Sv05.signed bits (Sv05.part bits x.toNat i) = ws (partI bits x i) (2 ^ bits) := by
  have w := partI_within bits i x
  rw [← signed_is hb w.1 w.2, ← part_is h, Int.toNat_natCast]
def fourI (a b : Int) : Int := partI 8 a 0 * ws (partI 8 b 0) 256 + partI 8 a 1 * ws (partI 8 b 1) 256 + partI 8 a 2 * ws (partI 8 b 2) 256 + partI 8 a 3 * ws (partI 8 b 3) 256
def twoI (a b : Int) : Int := ws (partI 16 a 0) 65536 * ws (partI 16 b 0) 65536 + ws (partI 16 a 1) 65536 * ws (partI 16 b 1) 65536
def laneI (kind s a b : Int) : Int :=
  if kind = 0 then (ws s 4294967296 + fourI a b) % 4294967296
  else if kind = 1 then hold (ws s 4294967296 + fourI a b) % 4294967296
  else if kind = 2 then (ws s 4294967296 + twoI a b) % 4294967296
  else if kind = 3 then hold (ws s 4294967296 + twoI a b) % 4294967296
  else s
theorem four_is {a b : Int} (ha : 0 ≤ a) (hb : 0 ≤ b) : Sv05.total ((List.range 4).map fun i => (Sv05.part 8 a.toNat i : Int) * Sv05.signed 8 (Sv05.part 8 b.toNat i)) = fourI a b := by
  show (0 : Int) + (Sv05.part 8 a.toNat 0 : Int) * Sv05.signed 8 (Sv05.part 8 b.toNat 0) + (Sv05.part 8 a.toNat 1 : Int) * Sv05.signed 8 (Sv05.part 8 b.toNat 1) + (Sv05.part 8 a.toNat 2 : Int) * Sv05.signed 8 (Sv05.part 8 b.toNat 2) + (Sv05.part 8 a.toNat 3 : Int) * Sv05.signed 8 (Sv05.part 8 b.toNat 3) = _
  rw [part_is ha, part_is ha, part_is ha, part_is ha, signed_part (by decide) hb, signed_part (by decide) hb, signed_part (by decide) hb, signed_part (by decide) hb, Int.zero_add]
  rfl
theorem two_is {a b : Int} (ha : 0 ≤ a) (hb : 0 ≤ b) : Sv05.total ((List.range 2).map fun i => Sv05.signed 16 (Sv05.part 16 a.toNat i) * Sv05.signed 16 (Sv05.part 16 b.toNat i)) = twoI a b := by
  show (0 : Int) + Sv05.signed 16 (Sv05.part 16 a.toNat 0) * Sv05.signed 16 (Sv05.part 16 b.toNat 0) + Sv05.signed 16 (Sv05.part 16 a.toNat 1) * Sv05.signed 16 (Sv05.part 16 b.toNat 1) = _
  rw [signed_part (by decide) ha, signed_part (by decide) ha, signed_part (by decide) hb, signed_part (by decide) hb, Int.zero_add]
  rfl
theorem lane_is {kind s a b : Int} (hs : 0 ≤ s ∧ s < 4294967296) (ha : 0 ≤ a) (hb : 0 ≤ b) : ((Sv05.laneSum kind s.toNat a.toNat b.toNat : Nat) : Int) = laneI kind s a b := by
  unfold Sv05.laneSum laneI
  dsimp only
  rw [four_is ha hb, two_is ha hb, signed32 hs]
  by_cases c0 : kind = 0
  · rw [if_pos c0, if_pos c0, unsigned_is]
    rfl
  rw [if_neg c0, if_neg c0]
  by_cases c1 : kind = 1
  · rw [if_pos c1, if_pos c1, unsigned_is]
    rfl
  rw [if_neg c1, if_neg c1]
  by_cases c2 : kind = 2
  · rw [if_pos c2, if_pos c2, unsigned_is]
    rfl
  rw [if_neg c2, if_neg c2]
  by_cases c3 : kind = 3
  · rw [if_pos c3, if_pos c3, unsigned_is]
    rfl
  rw [if_neg c3, if_neg c3]
  exact Int.toNat_of_nonneg hs.1
/-- bit j of k, as a remainder -/
def inKI (k : Int) (j : Nat) : Prop := k / 2 ^ j % 2 = 1
instance (k : Int) (j : Nat) : Decidable (inKI k j) := inferInstanceAs (Decidable (k / 2 ^ j % 2 = 1))
theorem inK_iff {k : Int} {j : Nat} (h : 0 ≤ k) : Sv05.inK k.toNat j = true ↔ inKI k j := by
  obtain ⟨m, rfl⟩ : ∃ m : Nat, k = (m : Int) := ⟨k.toNat, by omega⟩
  unfold Sv05.inK inKI
  rw [Int.toNat_natCast, Nat.testBit_eq_decide_div_mod_eq, decide_eq_true_eq]
  have e : ((2 : Int) ^ j) = ((2 ^ j : Nat) : Int) := by rw [Int.natCast_pow]; rfl
  rw [e]
  omega
theorem sum_asked_iff {k kind : Int} {s a b : List Int} (h : PySv05.sum_of_asked k kind s a b = true) : (0 ≤ k ∧ k < 65536) ∧ (-2147483648 ≤ kind ∧ kind < 2147483648) ∧ ((∀ x ∈ s, 0 ≤ x ∧ x < 4294967296) ∧ s.length ≤ 16) ∧ ((∀ x ∈ a, 0 ≤ x ∧ x < 4294967296) ∧ a.length ≤ 16) ∧ ((∀ x ∈ b, 0 ≤ x ∧ x < 4294967296) ∧ b.length ≤ 16) := by
  have h : (Sv05Neutral.below 65536 [k] && (Sv05Neutral.whole32 kind && (Sv05Neutral.lanes s && (Sv05Neutral.lanes a && Sv05Neutral.lanes b)))) = true := h
  simp only [Bool.and_eq_true, decide_eq_true_eq, Sv05Neutral.whole32] at h
  obtain ⟨h1, h2, h3, h4, h5⟩ := h
  exact ⟨below_iff h1 k (by simp), h2, lanes_iff h3, lanes_iff h4, lanes_iff h5⟩
theorem sum_is {k kind : Int} {s a b : List Int} (hk : 0 ≤ k) (hs : ∀ x ∈ s, 0 ≤ x ∧ x < 4294967296) (ha : ∀ x ∈ a, 0 ≤ x ∧ x < 4294967296) (hb : ∀ x ∈ b, 0 ≤ x ∧ x < 4294967296) :
    PySv05.sum_of k kind s a b = (List.range 16).map fun j => if inKI k j then laneI kind (gi s j) (gi a j) (gi b j) else gi s j := by
  show ([] : List Int) ++ (((List.range 16).map fun j => if Sv05.inK k.toNat j = true then Sv05.laneSum kind (Sv05.at_ (Sv05Neutral.n s) j) (Sv05.at_ (Sv05Neutral.n a) j) (Sv05.at_ (Sv05Neutral.n b) j) else Sv05.at_ (Sv05Neutral.n s) j).map some).map Sv05Neutral.said = _
  rw [List.nil_append, List.map_map, List.map_map]
  refine List.map_congr_left fun j _ => ?_
  have ws := gi_within (by decide) hs j
  have wa := gi_within (by decide) ha j
  have wb := gi_within (by decide) hb j
  show (((if Sv05.inK k.toNat j = true then Sv05.laneSum kind (Sv05.at_ (Sv05Neutral.n s) j) (Sv05.at_ (Sv05Neutral.n a) j) (Sv05.at_ (Sv05Neutral.n b) j) else Sv05.at_ (Sv05Neutral.n s) j) : Nat) : Int) = _
  rw [at_all, at_all, at_all]
  by_cases c : inKI k j
  · rw [if_pos c, if_pos ((inK_iff hk).mpr c)]
    exact lane_is ws wa.1 wb.1
  · rw [if_neg c, if_neg (fun z => c ((inK_iff hk).mp z))]
    exact Int.toNat_of_nonneg ws.1
end Sp
namespace Sp
/-! ### rounding to 24 bits, by the place of the highest bit alone -/
/-- the 24 bits that are kept, rounded: from 2^23 to 2^24 -/
def rq (v : Nat) : Nat := if 2 ^ (v.log2 - 23) < 2 * (v % 2 ^ (v.log2 - 23)) ∨ (2 * (v % 2 ^ (v.log2 - 23)) = 2 ^ (v.log2 - 23) ∧ v / 2 ^ (v.log2 - 23) % 2 = 1) then v / 2 ^ (v.log2 - 23) + 1 else v / 2 ^ (v.log2 - 23)
theorem rounded_def (s : Bool) (v : Nat) : Sv05.rounded s v = if rq v * 2 ^ (v.log2 - 23) < 2 ^ 172 then Sv05.single s 0 else if 2 ^ 426 ≤ rq v * 2 ^ (v.log2 - 23) then Sv05.single s 0x7F800000
    else Sv05.single s (((rq v * 2 ^ (v.log2 - 23)).log2 - 171) * 2 ^ 23 + rq v * 2 ^ (v.log2 - 23) / 2 ^ ((rq v * 2 ^ (v.log2 - 23)).log2 - 23) % 2 ^ 23) := rfl
theorem q_within {v : Nat} (h : 23 ≤ v.log2) : 2 ^ 23 ≤ v / 2 ^ (v.log2 - 23) ∧ v / 2 ^ (v.log2 - 23) < 2 ^ 24 := by
  have hv : v ≠ 0 := by
    intro e
    rw [e] at h
    exact absurd h (by decide)
  have b := (Nat.log2_eq_iff hv).mp rfl
  have hp := Nat.two_pow_pos (v.log2 - 23)
  refine ⟨(Nat.le_div_iff_mul_le hp).mpr ?_, (Nat.div_lt_iff_lt_mul hp).mpr ?_⟩
  · rw [← Nat.pow_add, show 23 + (v.log2 - 23) = v.log2 by omega]
    exact b.1
  · rw [← Nat.pow_add, show 24 + (v.log2 - 23) = v.log2 + 1 by omega]
    exact b.2
theorem rq_within {v : Nat} (h : 23 ≤ v.log2) : 2 ^ 23 ≤ rq v ∧ rq v ≤ 2 ^ 24 := by
  have b := q_within h
  unfold rq
  split
  · omega
  · omega
/-- where the highest bit is 2^172 or more and below 2^426: the bits are one sum, whether or not the rounding goes up to the next power -/
theorem rounded_mid {s : Bool} {v : Nat} (h1 : 172 ≤ v.log2) (h2 : v.log2 ≤ 425) : Sv05.rounded s v = Sv05.single s ((v.log2 - 172) * 2 ^ 23 + rq v) := by
  obtain ⟨b1, b2⟩ := rq_within (v := v) (by omega)
  have lo : 2 ^ v.log2 ≤ rq v * 2 ^ (v.log2 - 23) := by
    have z := Nat.mul_le_mul_right (2 ^ (v.log2 - 23)) b1
    rw [← Nat.pow_add, show 23 + (v.log2 - 23) = v.log2 by omega] at z
    exact z
  rw [rounded_def, if_neg (Nat.not_lt.mpr (Nat.le_trans (Nat.pow_le_pow_right (by decide) h1) lo))]
  by_cases c : rq v = 2 ^ 24
  · have en : rq v * 2 ^ (v.log2 - 23) = 2 ^ (v.log2 + 1) := by
      rw [c, ← Nat.pow_add, show 24 + (v.log2 - 23) = v.log2 + 1 by omega]
    rw [en, Nat.log2_two_pow, c]
    by_cases c2 : v.log2 = 425
    · rw [c2, if_pos (Nat.le_refl _)]
    · have : ¬ 2 ^ 426 ≤ 2 ^ (v.log2 + 1) := Nat.not_le.mpr (Nat.pow_lt_pow_right (by decide) (by omega))
      rw [if_neg this]
      have e : 2 ^ (v.log2 + 1) / 2 ^ (v.log2 + 1 - 23) = 2 ^ 23 := by
        rw [Nat.pow_div (by omega) (by decide)]
        congr 1
        omega
      rw [e]
      refine congrArg (Sv05.single s) ?_
      omega
  · have hi : rq v * 2 ^ (v.log2 - 23) < 2 ^ (v.log2 + 1) := by
      have z := Nat.mul_lt_mul_of_pos_right (show rq v < 2 ^ 24 by omega) (Nat.two_pow_pos (v.log2 - 23))
      rw [← Nat.pow_add, show 24 + (v.log2 - 23) = v.log2 + 1 by omega] at z
      exact z
    have hl : (rq v * 2 ^ (v.log2 - 23)).log2 = v.log2 := (Nat.log2_eq_iff (by
      have := Nat.two_pow_pos v.log2
      omega)).mpr ⟨lo, hi⟩
    rw [if_neg (Nat.not_le.mpr (Nat.lt_of_lt_of_le hi (Nat.pow_le_pow_right (by decide) (by omega)))), hl, Nat.mul_div_cancel _ (Nat.two_pow_pos _)]
    refine congrArg (Sv05.single s) ?_
    omega
theorem rounded_high {s : Bool} {v : Nat} (h1 : 426 ≤ v.log2) : Sv05.rounded s v = Sv05.single s 0x7F800000 := by
  obtain ⟨b1, b2⟩ := rq_within (v := v) (by omega)
  have lo : 2 ^ v.log2 ≤ rq v * 2 ^ (v.log2 - 23) := by
    have z := Nat.mul_le_mul_right (2 ^ (v.log2 - 23)) b1
    rw [← Nat.pow_add, show 23 + (v.log2 - 23) = v.log2 by omega] at z
    exact z
  rw [rounded_def, if_neg (Nat.not_lt.mpr (Nat.le_trans (Nat.pow_le_pow_right (by decide) (show 172 ≤ v.log2 by omega)) lo)), if_pos (Nat.le_trans (Nat.pow_le_pow_right (by decide) h1) lo)]
theorem rounded_171 {s : Bool} {v : Nat} (h1 : v.log2 = 171) : Sv05.rounded s v = Sv05.single s (if rq v = 2 ^ 24 then 2 ^ 23 else 0) := by
  obtain ⟨b1, b2⟩ := rq_within (v := v) (by omega)
  rw [rounded_def, h1]
  by_cases c : rq v = 2 ^ 24
  · rw [if_pos c, c]
    cases s <;> decide +kernel
  · rw [if_neg c]
    have z := Nat.mul_lt_mul_of_pos_right (show rq v < 2 ^ 24 by omega) (Nat.two_pow_pos (171 - 23))
    rw [if_pos (Nat.lt_of_lt_of_le z (by decide +kernel))]
theorem rounded_low {s : Bool} {v : Nat} (h1 : v.log2 < 171) : Sv05.rounded s v = Sv05.single s 0 := by
  rw [rounded_def]
  refine if_pos ?_
  by_cases c : 23 ≤ v.log2
  · obtain ⟨b1, b2⟩ := rq_within c
    have z := Nat.mul_le_mul_right (2 ^ (v.log2 - 23)) b2
    rw [← Nat.pow_add] at z
    exact Nat.lt_of_le_of_lt z (Nat.pow_lt_pow_right (by decide) (by omega))
  · have e : v.log2 - 23 = 0 := by omega
    have hr : rq v ≤ v + 1 := by
      unfold rq
      rw [e, Nat.pow_zero, Nat.div_one]
      split <;> omega
    have hv : v < 2 ^ 23 := by
      by_cases v0 : v = 0
      · rw [v0]
        decide
      · exact Nat.lt_of_lt_of_le ((Nat.log2_eq_iff v0).mp rfl).2 (Nat.pow_le_pow_right (by decide) (by omega))
    rw [e, Nat.pow_zero, Nat.mul_one]
    exact Nat.lt_of_le_of_lt (show rq v ≤ 2 ^ 24 by omega) (by decide +kernel)
end Sp
namespace Sp
/-! ### singles, in whole numbers -/
def nanI (x : Int) : Prop := 2139095040 < x % 2147483648
def infI (x : Int) : Prop := x % 2147483648 = 2139095040
def zerI (x : Int) : Prop := x % 2147483648 < 8388608
instance (x : Int) : Decidable (nanI x) := inferInstanceAs (Decidable (2139095040 < x % 2147483648))
instance (x : Int) : Decidable (infI x) := inferInstanceAs (Decidable (x % 2147483648 = 2139095040))
instance (x : Int) : Decidable (zerI x) := inferInstanceAs (Decidable (x % 2147483648 < 8388608))
def nearI (v u : Int) : Int := if u < 2 * (v % u) ∨ (2 * (v % u) = u ∧ v / u % 2 = 1) then v / u + 1 else v / u
theorem nanB (a : Nat) : Sv05.isNan a = decide (nanI a) := by
  rw [Bool.eq_iff_iff, decide_eq_true_eq]
  unfold Sv05.isNan Sv05.mag nanI
  rw [decide_eq_true_eq]
  omega
theorem infB (a : Nat) : Sv05.isInf a = decide (infI a) := by
  rw [Bool.eq_iff_iff, decide_eq_true_eq]
  unfold Sv05.isInf Sv05.mag infI
  rw [beq_iff_eq]
  omega
theorem zerB (a : Nat) : Sv05.isZero a = decide (zerI a) := by
  rw [Bool.eq_iff_iff, decide_eq_true_eq]
  unfold Sv05.isZero Sv05.mag zerI
  rw [decide_eq_true_eq]
  omega
theorem minB {a : Nat} (h : a < 4294967296) : Sv05.minus a = decide (2147483648 ≤ a) := by
  unfold Sv05.minus
  rw [decide_eq_decide]
  omega
/-! short -/
def bfI (x : Int) : Int := if nanI x then ((x.toNat / 65536 ||| 64 : Nat) : Int) else if zerI x then x / 2147483648 * 32768 else nearI x 65536
theorem short_is {x : Int} (h : 0 ≤ x ∧ x < 4294967296) : ((Sv05.short x.toNat : Nat) : Int) = bfI x := by
  obtain ⟨a, rfl⟩ : ∃ a : Nat, x = (a : Int) := ⟨x.toNat, by omega⟩
  rw [Int.toNat_natCast]
  have ha : a < 4294967296 := by omega
  unfold Sv05.short bfI
  rw [nanB, zerB, minB ha, Int.toNat_natCast]
  simp only [decide_eq_true_eq]
  have e : a % 2 ^ 32 = a := Nat.mod_eq_of_lt ha
  rw [e]
  by_cases c1 : nanI a
  · rw [if_pos c1, if_pos c1]
  rw [if_neg c1, if_neg c1]
  by_cases c2 : zerI a
  · rw [if_pos c2, if_pos c2]
    by_cases c3 : 2147483648 ≤ a
    · rw [if_pos c3]
      omega
    · rw [if_neg c3]
      omega
  rw [if_neg c2, if_neg c2]
  unfold nearI
  by_cases c3 : 0x8000 < a % 65536 ∨ (a % 65536 = 0x8000 ∧ a / 65536 % 2 = 1)
  · rw [if_pos c3, if_pos (by omega)]
    omega
  · rw [if_neg c3, if_neg (by omega)]
    omega
theorem bf_within {x : Int} (h : 0 ≤ x ∧ x < 4294967296) : 0 ≤ bfI x ∧ bfI x ≤ 65536 := by
  unfold bfI
  split
  · refine ⟨by omega, ?_⟩
    have q : x.toNat / 65536 ||| 64 < 2 ^ 16 := Nat.or_lt_two_pow (by omega) (by decide)
    omega
  · split
    · omega
    · unfold nearI
      split <;> omega
theorem short_asked_iff {l h : List Int} (q : PySv05.short_asked l h = true) : ((∀ x ∈ l, 0 ≤ x ∧ x < 4294967296) ∧ l.length ≤ 16) ∧ ((∀ x ∈ h, 0 ≤ x ∧ x < 4294967296) ∧ h.length ≤ 16) := by
  have q : (Sv05Neutral.lanes l && Sv05Neutral.lanes h) = true := q
  rw [Bool.and_eq_true] at q
  exact ⟨lanes_iff q.1, lanes_iff q.2⟩
/-- the number at place i of low's sixteen and then high's -/
def lohi (l h : List Int) (i : Nat) : Int := if i < 16 then gi l i else gi h (i - 16)
def shortI (l h : List Int) (j : Nat) : Int := bfI (lohi l h (2 * j)) + 65536 * bfI (lohi l h (2 * j + 1))
theorem short_all {l h : List Int} (hl : ∀ x ∈ l, 0 ≤ x ∧ x < 4294967296) (hh : ∀ x ∈ h, 0 ≤ x ∧ x < 4294967296) : PySv05.short l h = (List.range 16).map (shortI l h) := by
  show ([] : List Int) ++ (((List.range 16).map fun j => if j < 8 then Sv05.short (Sv05.at_ (Sv05Neutral.n l) (2 * j)) + 65536 * Sv05.short (Sv05.at_ (Sv05Neutral.n l) (2 * j + 1)) else Sv05.short (Sv05.at_ (Sv05Neutral.n h) (2 * j - 16)) + 65536 * Sv05.short (Sv05.at_ (Sv05Neutral.n h) (2 * j - 15))).map some).map Sv05Neutral.said = _
  rw [List.nil_append, List.map_map, List.map_map]
  refine List.map_congr_left fun j hj => ?_
  have hj := List.mem_range.mp hj
  show (((if j < 8 then Sv05.short (Sv05.at_ (Sv05Neutral.n l) (2 * j)) + 65536 * Sv05.short (Sv05.at_ (Sv05Neutral.n l) (2 * j + 1)) else Sv05.short (Sv05.at_ (Sv05Neutral.n h) (2 * j - 16)) + 65536 * Sv05.short (Sv05.at_ (Sv05Neutral.n h) (2 * j - 15)) : Nat)) : Int) = _
  unfold shortI lohi
  by_cases c : j < 8
  · rw [if_pos c, if_pos (by omega), if_pos (by omega), at_all, at_all, Int.natCast_add, Int.natCast_mul, short_is (gi_within (by decide) hl _), short_is (gi_within (by decide) hl _)]
    rfl
  · rw [if_neg c, if_neg (by omega), if_neg (by omega), at_all, at_all, Int.natCast_add, Int.natCast_mul, short_is (gi_within (by decide) hh _), short_is (gi_within (by decide) hh _), show 2 * j - 15 = 2 * j + 1 - 16 by omega]
    rfl
/-! a step -/
def sgnI (p q : Int) : Int := (p / 2147483648 + q / 2147483648) % 2
def sizeI (x : Int) : Int := (8388608 + x % 2147483648 % 8388608) * 2 ^ (x % 2147483648 / 8388608 - 1).toNat
def exactI (x : Int) : Int := if zerI x then 0 else if 2147483648 ≤ x then -sizeI x else sizeI x
def surp (t : Int) : Nat := t.natAbs.log2 - 23
def tallI (t : Int) : Int := ((surp t : Int) - 149) * 8388608 + nearI (t.natAbs : Int) (2 ^ surp t)
def rndI (t : Int) : Int := min (if tallI t < 8388608 then 0 else tallI t) 2139095040 + (if t < 0 then 2147483648 else 0)
def infSumI (x p q : Int) : Int := if ¬ infI p ∧ ¬ infI q then x else if zerI p ∨ zerI q then -1 else
  if infI x ∧ x ≠ 2139095040 + 2147483648 * sgnI p q then -1 else 2139095040 + 2147483648 * sgnI p q
def totI (x p q : Int) : Int := exactI x * exactI 1065353216 + exactI p * exactI q
def addI (x p q : Int) : Int := if nanI x ∨ nanI p ∨ nanI q then -1 else if infI x ∨ infI p ∨ infI q then infSumI x p q else
  if totI x p q = 0 then 2147483648 * (x / 2147483648 * sgnI p q) else rndI (totI x p q)
theorem near_is (v e : Nat) : nearI (v : Int) (2 ^ e) = ((if 2 ^ e < 2 * (v % 2 ^ e) ∨ (2 * (v % 2 ^ e) = 2 ^ e ∧ v / 2 ^ e % 2 = 1) then v / 2 ^ e + 1 else v / 2 ^ e : Nat) : Int) := by
  have e2 : ((2 : Int) ^ e) = ((2 ^ e : Nat) : Int) := by rw [Int.natCast_pow]; rfl
  unfold nearI
  rw [e2, ← Int.natCast_ediv, ← Int.natCast_emod]
  generalize v / 2 ^ e = q
  generalize v % 2 ^ e = r
  generalize 2 ^ e = u
  by_cases c : u < 2 * r ∨ (2 * r = u ∧ q % 2 = 1)
  · rw [if_pos c, if_pos (by omega)]
    omega
  · rw [if_neg c, if_neg (by omega)]
theorem tall_is (t : Int) : tallI t = ((surp t : Int) - 149) * 8388608 + (rq t.natAbs : Int) := by
  unfold tallI
  rw [near_is]
  rfl
theorem single_is {s : Bool} {c : Prop} [Decidable c] {m : Nat} {z : Int} (hz : z = (m : Int)) (hs : s = decide c) : ((Sv05.single s m : Nat) : Int) = z + if c then 2147483648 else 0 := by
  subst hz hs
  unfold Sv05.single
  by_cases h : c
  · rw [if_pos h, if_pos (decide_eq_true h)]
    omega
  · rw [if_neg h, if_neg (fun z => h (of_decide_eq_true z))]
    omega
theorem rq_low {v : Nat} (h : v.log2 < 23) : rq v ≤ 2 ^ 24 := by
  have e : v.log2 - 23 = 0 := by omega
  have hr : rq v ≤ v + 1 := by
    unfold rq
    rw [e, Nat.pow_zero, Nat.div_one]
    split <;> omega
  have hv : v < 2 ^ 23 := by
    by_cases v0 : v = 0
    · rw [v0]
      decide
    · exact Nat.lt_of_lt_of_le ((Nat.log2_eq_iff v0).mp rfl).2 (Nat.pow_le_pow_right (by decide) (by omega))
  omega
theorem rnd_is (t : Int) : rndI t = ((Sv05.rounded (decide (t < 0)) t.natAbs : Nat) : Int) := by
  symm
  unfold rndI
  rw [tall_is]
  unfold surp
  have q24 : rq t.natAbs ≤ 2 ^ 24 := by
    rcases Nat.lt_or_ge t.natAbs.log2 23 with c | c
    · exact rq_low c
    · exact (rq_within c).2
  rcases Nat.lt_or_ge t.natAbs.log2 171 with c | c
  · rw [rounded_low c]
    refine single_is ?_ rfl
    rw [if_pos (by omega)]
    decide
  have q23 := (rq_within (v := t.natAbs) (by omega)).1
  rcases Nat.lt_or_ge t.natAbs.log2 172 with d | d
  · have e : t.natAbs.log2 = 171 := by omega
    rw [rounded_171 e]
    refine single_is ?_ rfl
    rw [e]
    by_cases f : rq t.natAbs = 2 ^ 24
    · rw [if_pos f, f]
      decide
    · rw [if_neg f, if_pos (by omega)]
      decide
  rcases Nat.lt_or_ge t.natAbs.log2 426 with e | e
  · rw [rounded_mid d (by omega)]
    refine single_is ?_ rfl
    rw [if_neg (by omega)]
    omega
  · rw [rounded_high e]
    refine single_is ?_ rfl
    rw [if_neg (by omega)]
    omega
theorem size_units {a : Nat} (h : ¬ zerI a) : sizeI a = ((Sv05.units a : Nat) : Int) := by
  unfold Sv05.units
  rw [zerB, if_neg (fun z => h (of_decide_eq_true z))]
  unfold sizeI Sv05.mag
  unfold zerI at h
  rw [show ((a : Int) % 2147483648 / 8388608 - 1).toNat = a % 2 ^ 31 / 2 ^ 23 - 1 by omega, Int.natCast_mul, Int.natCast_pow, Int.natCast_add, Int.natCast_emod, Int.natCast_emod]
  rfl
theorem exact_is {a : Nat} (h : a < 4294967296) : exactI a = Sv05.value a := by
  unfold exactI Sv05.value
  rw [minB h]
  by_cases c : zerI a
  · have u : Sv05.units a = 0 := by
      unfold Sv05.units
      rw [zerB, if_pos (decide_eq_true c)]
    rw [if_pos c, u]
    split <;> rfl
  · rw [if_neg c, size_units c]
    by_cases d : 2147483648 ≤ a
    · rw [if_pos (by omega), if_pos (decide_eq_true d)]
    · rw [if_neg (by omega), if_neg (fun z => d (of_decide_eq_true z))]
theorem sgn_is {a b : Nat} (ha : a < 4294967296) (hb : b < 4294967296) : sgnI a b = if (Sv05.minus a != Sv05.minus b) = true then 1 else 0 := by
  unfold sgnI
  rw [minB ha, minB hb]
  by_cases c : 2147483648 ≤ a <;> by_cases d : 2147483648 ≤ b
  · rw [decide_eq_true c, decide_eq_true d, if_neg (by decide)]
    omega
  · rw [decide_eq_true c, decide_eq_false d, if_pos (by decide)]
    omega
  · rw [decide_eq_false c, decide_eq_true d, if_pos (by decide)]
    omega
  · rw [decide_eq_false c, decide_eq_false d, if_neg (by decide)]
    omega
theorem one_is : exactI 1065353216 = ((2 ^ 149 : Nat) : Int) := by decide +kernel
theorem tot_is {a b c : Nat} (ha : a < 4294967296) (hb : b < 4294967296) (hc : c < 4294967296) : totI a b c = Sv05.value a * (2 ^ 149 : Nat) + Sv05.value b * Sv05.value c := by
  unfold totI
  rw [one_is, exact_is ha, exact_is hb, exact_is hc]
theorem inf_not_zer {x : Int} (h : infI x) : ¬ zerI x := by
  unfold infI at h
  unfold zerI
  omega
theorem single_inf (s : Bool) : ((Sv05.single s 0x7F800000 : Nat) : Int) = 2139095040 + 2147483648 * (if s = true then 1 else 0) := by
  cases s <;> rfl
theorem single_zero (s : Bool) : ((Sv05.single s 0 : Nat) : Int) = 2147483648 * (if s = true then 1 else 0) := by
  cases s <;> rfl
theorem inf_self {a : Nat} (ha : a < 4294967296) (h : infI a) : (a : Int) = 2139095040 + 2147483648 * (if Sv05.minus a = true then 1 else 0) := by
  rw [minB ha]
  unfold infI at h
  by_cases c : 2147483648 ≤ a
  · rw [if_pos (decide_eq_true c)]
    omega
  · rw [if_neg (fun z => c (of_decide_eq_true z))]
    omega
theorem add_some {a b c : Nat} (ha : a < 4294967296) (hb : b < 4294967296) (hc : c < 4294967296) : addI a b c = Sv05Neutral.said (Sv05.step a b c) := by
  unfold addI Sv05.step
  dsimp only
  rw [nanB, nanB, nanB, infB, infB, infB, zerB, zerB]
  by_cases n1 : nanI a
  · rw [if_pos (.inl n1), decide_eq_true n1]
    rfl
  by_cases n2 : nanI b
  · rw [if_pos (.inr (.inl n2)), decide_eq_true n2, Bool.or_true]
    rfl
  by_cases n3 : nanI c
  · rw [if_pos (.inr (.inr n3)), decide_eq_true n3, Bool.or_true]
    rfl
  rw [if_neg (fun z => z.elim n1 fun z => z.elim n2 n3), decide_eq_false n1, decide_eq_false n2, decide_eq_false n3, Bool.false_or, Bool.false_or, Bool.false_or]
  by_cases ib : infI b
  · rw [if_pos (.inr (.inl ib)), decide_eq_true ib, decide_eq_false (inf_not_zer ib), Bool.true_and, Bool.false_and, Bool.or_false]
    unfold infSumI
    rw [if_neg (fun z => z.1 ib)]
    by_cases zc : zerI c
    · rw [if_pos (.inr zc), decide_eq_true zc]
      rfl
    · rw [if_neg (fun z => z.elim (inf_not_zer ib) zc), decide_eq_false zc, if_neg Bool.false_ne_true, Bool.true_or, if_pos rfl, sgn_is hb hc]
      by_cases ia : infI a
      · have ea := inf_self ha ia
        rw [decide_eq_true ia, Bool.true_and]
        generalize (Sv05.minus b != Sv05.minus c) = s at *
        generalize Sv05.minus a = m at *
        rw [ea]
        cases m <;> cases s <;> first | rfl | exact (if_pos ⟨by decide, by decide⟩)
      · rw [if_neg (fun z => ia z.1), decide_eq_false ia, Bool.false_and, if_neg Bool.false_ne_true]
        exact (single_inf _).symm
  by_cases ic : infI c
  · rw [if_pos (.inr (.inr ic)), decide_eq_true ic, decide_eq_false ib, Bool.false_and, Bool.false_or, Bool.and_true]
    unfold infSumI
    rw [if_neg (fun z => z.2 ic)]
    by_cases zb : zerI b
    · rw [if_pos (.inl zb), decide_eq_true zb]
      rfl
    · rw [if_neg (fun z => z.elim zb (inf_not_zer ic)), decide_eq_false zb, if_neg Bool.false_ne_true, Bool.false_or, if_pos rfl, sgn_is hb hc]
      by_cases ia : infI a
      · have ea := inf_self ha ia
        rw [decide_eq_true ia, Bool.true_and]
        generalize (Sv05.minus b != Sv05.minus c) = s at *
        generalize Sv05.minus a = m at *
        rw [ea]
        cases m <;> cases s <;> first | rfl | exact (if_pos ⟨by decide, by decide⟩)
      · rw [if_neg (fun z => ia z.1), decide_eq_false ia, Bool.false_and, if_neg Bool.false_ne_true]
        exact (single_inf _).symm
  rw [decide_eq_false ib, decide_eq_false ic, Bool.false_and, Bool.and_false, Bool.or_false, if_neg Bool.false_ne_true, if_neg Bool.false_ne_true]
  by_cases ia : infI a
  · rw [if_pos (.inl ia), decide_eq_true ia, if_pos rfl]
    unfold infSumI
    rw [if_pos ⟨ib, ic⟩]
    show (a : Int) = ((Sv05.single (Sv05.minus a) 0x7F800000 : Nat) : Int)
    rw [single_inf]
    exact inf_self ha ia
  rw [if_neg (fun z => z.elim ia fun z => z.elim ib ic), decide_eq_false ia, if_neg Bool.false_ne_true, tot_is ha hb hc]
  generalize Sv05.value a * ((2 ^ 149 : Nat) : Int) + Sv05.value b * Sv05.value c = v
  by_cases v0 : v = 0
  · rw [if_pos v0, if_pos v0]
    show _ = ((Sv05.single _ 0 : Nat) : Int)
    rw [single_zero, sgn_is hb hc, minB ha]
    generalize (Sv05.minus b != Sv05.minus c) = s
    by_cases d : 2147483648 ≤ a
    · rw [decide_eq_true d, Bool.true_and, show (a : Int) / 2147483648 = 1 by omega, Int.one_mul]
    · rw [decide_eq_false d, Bool.false_and, show (a : Int) / 2147483648 = 0 by omega, Int.zero_mul, Int.mul_zero]
      rfl
  · rw [if_neg v0, if_neg v0]
    exact rnd_is v
end Sp

namespace Sp
open PySem PySem.Spec PyProof.Rows L2
open PySem.W (Codec)
/-! ### the text by places -/
def top (i : Nat) : Stmt := PySem.Challenge.pw_smallproducts_s05_short.main.body.getD i (.Pass ⟨0, 0, 0, 0⟩)
abbrev s_sixteen : Stmt := top 7
abbrev s_is_nan : Stmt := top 8
abbrev s_is_zero : Stmt := top 9
abbrev s_nearest_multiple : Stmt := top 10
abbrev s_bfloat16_of : Stmt := top 11
abbrev s_short : Stmt := top 12
/-- where each def stands -/
structure Ad where
  f_sixteen : Addr
  d_sixteen : FuncData
  f_is_nan : Addr
  d_is_nan : FuncData
  f_is_zero : Addr
  d_is_zero : FuncData
  f_nearest_multiple : Addr
  d_nearest_multiple : FuncData
  f_bfloat16_of : Addr
  d_bfloat16_of : FuncData
  f_short : Addr
  d_short : FuncData
/-- what the top has written -/
structure Txt (K : PySem.W.Frag) (mg : Str → Option Value) (A : Ad) : Prop where
  F_sixteen : Fun K "sixteen" "sixteen" s_sixteen A.f_sixteen A.d_sixteen
  b_sixteen : Binds K A.d_sixteen ["lanes"] []
  g_sixteen : mg "sixteen" = some (.ref A.f_sixteen)
  F_is_nan : Fun K "is_nan" "is_nan" s_is_nan A.f_is_nan A.d_is_nan
  b_is_nan : Binds K A.d_is_nan ["single"] []
  g_is_nan : mg "is_nan" = some (.ref A.f_is_nan)
  F_is_zero : Fun K "is_zero" "is_zero" s_is_zero A.f_is_zero A.d_is_zero
  b_is_zero : Binds K A.d_is_zero ["single"] []
  g_is_zero : mg "is_zero" = some (.ref A.f_is_zero)
  F_nearest_multiple : Fun K "nearest_multiple" "nearest_multiple" s_nearest_multiple A.f_nearest_multiple A.d_nearest_multiple
  b_nearest_multiple : Binds K A.d_nearest_multiple ["number", "unit"] []
  g_nearest_multiple : mg "nearest_multiple" = some (.ref A.f_nearest_multiple)
  F_bfloat16_of : Fun K "bfloat16_of" "bfloat16_of" s_bfloat16_of A.f_bfloat16_of A.d_bfloat16_of
  b_bfloat16_of : Binds K A.d_bfloat16_of ["single"] []
  g_bfloat16_of : mg "bfloat16_of" = some (.ref A.f_bfloat16_of)
  F_short : Fun K "short" "short" s_short A.f_short A.d_short
  b_short : Binds K A.d_short ["low", "high"] []
  g_short : mg "short" = some (.ref A.f_short)
  c_LANES : ∃ t, mg "LANES" = some (.int (16) t)
  c_SPAN_16 : ∃ t, mg "SPAN_16" = some (.int (65536) t)
  c_SIGN : ∃ t, mg "SIGN" = some (.int (2147483648) t)
  c_LEAST_NORMAL : ∃ t, mg "LEAST_NORMAL" = some (.int (8388608) t)
  c_INFINITY : ∃ t, mg "INFINITY" = some (.int (2139095040) t)
  c_QUIET_BIT : ∃ t, mg "QUIET_BIT" = some (.int (64) t)
  z_len : mg "len" = none
  z_range : mg "range" = none
section
variable {P : Program} {w : World} {K : PySem.W.Frag} {mg : Str → Option Value} {base : Heap} {A : Ad}
/-! ### helpers -/
theorem pe_cint {X : Cx} {x : Str} {i : Int} {t : _} {pos : Pos} (hg : Gl X x) (hm : X.mg x = some (.int i t)) (hd : (x == ("__debug__" : Str)) = false := by decide) : PE X (.Name x pos) (tC (.int i)) := pe_glob hg hm ⟨_, rfl⟩ hd
theorem same_upd {H : Hp} {p : Addr} {o : HO} (h : H p = none) : Same H (upd H p o) := fun b x e => by
  rw [upd_ne (ne_of_none e h)]
  exact e
/-- a store to an address that was free at the start -/
theorem same_store {H H1 : Hp} {p : Addr} {o : HO} (h : H p = none) (s : Same H H1) : Same H (upd H1 p o) := fun b x e => by
  rw [upd_ne (ne_of_none e h)]
  exact s b x e
theorem at_map {l : List Int} {j : Nat} (h : j < l.length) : (l.map V.int)[j]? = some (.int (gi l j)) := by
  rw [List.getElem?_map, gi_get h]
  rfl
theorem map_at {l : List Int} {j : Nat} {y : V} (h : (l.map V.int)[j]? = some y) : ∃ z, l[j]? = some z ∧ y = .int z := by
  rw [List.getElem?_map] at h
  cases e : l[j]? with
  | none =>
    rw [e] at h
    cases h
  | some z =>
    rw [e] at h
    exact ⟨z, rfl, (Option.some.inj h).symm⟩

/-! ### lists of any place: one behind the other -/
def rCatL (K : PySem.W.Frag) : R2 := fun x y H Q => ∃ l b xs zs, x = .ref l ∧ y = .ref b ∧ SqL K H l xs ∧ SqL K H b zs ∧ xs.length + zs.length ≤ sizeLine ∧ ∀ p, H p = none → Q (.ref p) (upd H p (.lst (xs ++ zs)))
theorem op_catL {X : Cx} : OpR X (binaryOp .Add) (rCatL X.K) := by
  intro pins s σ H x y v u Q I rx ry h
  obtain ⟨l, b, xs, zs, rfl, rfl, hH, hB, hz, q⟩ := h
  cases rx
  cases ry
  obtain ⟨its, r, ⟨⟨cls, dd, data, sl⟩, n, e, hc, hd, hs⟩, _⟩ := I.list hH
  obtain ⟨its2, r2, ⟨⟨cls2, dd2, data2, sl2⟩, n2, e2, hc2, hd2, hs2⟩, _⟩ := I.list hB
  simp only at hc hd hs hc2 hd2 hs2
  subst hc hd hs hc2 hd2 hs2
  have hl := r.length
  have hl2 := r2.length
  have ea : its.toArray ++ its2.toArray = (its ++ its2).toArray := by simp
  refine concat_meets ⟨_, e, rfl⟩ ⟨_, e2, rfl⟩ noFill_list_add seq_list_add PySem.F.slot_list_add PySem.F.entry_list_add (PySem.F.args_list_add_2 _ _) (list_addW l b its.toArray its2.toArray n n2 none none sl sl2 (by rw [List.size_toArray, List.size_toArray]; omega)) ⟨e, e2, ?_⟩
  rw [ea]
  exact ⟨.ref _, _, I.lnew (t' := s.toks) (r.append r2) (by rw [List.length_append]; omega), rfl, q _ I.fresh⟩

/-! ### lanes -/
theorem gi_out {l : List Int} {j : Nat} (h : l.length ≤ j) : gi l j = 0 := by
  unfold gi
  rw [List.getD_eq_getElem?_getD, List.getElem?_eq_none h]
  rfl
theorem range_at {f : Nat → Int} {n j : Nat} (h : j < n) : ((List.range n).map f)[j]? = some (f j) := by
  rw [List.getElem?_map, List.getElem?_range h]
  rfl
theorem gi_range {f : Nat → Int} {n j : Nat} (h : j < n) : gi ((List.range n).map f) j = f j := by
  unfold gi
  rw [List.getD_eq_getElem?_getD, range_at h]
  rfl
theorem ixN_nat {n j : Nat} (h : j < n) : ixN n (j : Int) = some j := by
  unfold ixN
  rw [if_pos (by omega), if_pos (by omega), Int.toNat_natCast]
theorem dec_int (a b : Int) : decide (V.int a = V.int b) = decide (a = b) := by
  rw [decide_eq_decide]
  exact ⟨V.int.inj, congrArg V.int⟩
/-! ### sixteen -/
theorem sixteen_is {l : List Int} (h : l.length ≤ 16) : l.map V.int ++ (List.replicate ((16 : Int) - ((l.length : Nat) : Int)).toNat [V.int 0]).flatten = ((List.range 16).map (gi l)).map V.int := by
  rw [List.flatten_replicate_singleton, ← List.map_replicate, ← List.map_append]
  refine congrArg (List.map V.int) (List.ext_getElem? fun i => ?_)
  by_cases c : i < l.length
  · rw [List.getElem?_append_left c, List.getElem?_map, List.getElem?_range (by omega), gi_get c]
    rfl
  · rw [List.getElem?_append_right (by omega)]
    by_cases d : i < 16
    · rw [List.getElem?_replicate, if_pos (by omega), List.getElem?_map, List.getElem?_range d]
      show _ = some (gi l i)
      rw [gi_out (by omega)]
    · rw [List.getElem?_replicate, if_neg (by omega), List.getElem?_eq_none (by rw [List.length_map, List.length_range]; omega)]
def spSix (K : PySem.W.Frag) : Sp := fun vs H Q _ => ∃ (a : Addr) (l : List Int), vs = [.ref a] ∧ SqL K H a (l.map V.int) ∧ l.length ≤ 16 ∧
  ∀ H' p, Same H H' → H p = none → H' p = some (.lst (((List.range 16).map (gi l)).map V.int)) → Q (.ref p) H'
theorem sc_sixteen : FnScope ["lanes"] ["lanes"] (defScope s_sixteen) := ⟨rfl, rfl, rfl, by decide +kernel, rfl, by decide +kernel, by decide +kernel⟩
theorem ok_sixteen (T : Txt K mg A) : FnOk P w K mg base CX0 1 A.f_sixteen A.d_sixteen ["lanes"] (spSix K) := by
  obtain ⟨t1, c1⟩ := T.c_LANES
  refine T.F_sixteen.ok sc_sixteen (fun vs H Q E h => ?_) (fun cdv A' outer s H vs Q E hr h => ?_)
  · obtain ⟨a, l, rfl, _⟩ := h
    rfl
  · obtain ⟨a, l, rfl, hL, hl, q⟩ := h
    refine ⟨_, pss_one (ps_ret (pe_op op_catL (pv 0) (pe_op op_rep (pe_lst (pa_cons pe_int pa_nil)) (pe_op op_sub (pe_cint rfl c1) (pe_callB call_len_seq (by rfl) T.z_len PySem.boot_len (pa_cons (pv 0) pa_nil)))))), ?_⟩
    refine ⟨_, rfl, (by show 1 ≤ sizeLine; decide), fun p1 n1 => ?_⟩
    have s1 : Same H (upd H p1 (.lst [.int 0])) := same_upd n1
    refine ⟨_, rfl, a, _, rfl, .inl (s1.seq hL), _, _, rfl, rfl, ?_⟩
    rw [List.length_map]
    refine ⟨p1, _, [.int 0], rfl, rfl, upd_same, (by omega), (by omega), ?_, fun p2 n2 => ?_⟩
    · exact Nat.le_trans (show [V.int 0].length * ((16 : Int) - ((l.length : Nat) : Int)).toNat ≤ 16 by show 1 * _ ≤ 16; omega) (by decide)
    have s2 := same_upd (o := .lst (List.replicate ((16 : Int) - ((l.length : Nat) : Int)).toNat [V.int 0]).flatten) n2
    refine ⟨a, p2, _, _, rfl, rfl, s2.seq (s1.seq hL), SqL.of upd_same, ?_, fun p3 n3 => ?_⟩
    · rw [List.flatten_replicate_singleton, List.length_map, List.length_replicate]
      exact Nat.le_trans (show _ ≤ 16 by omega) (by decide)
    refine q _ p3 (fun b x e => ?_) (s1.free (s2.free n3)) ?_
    · exact same_upd n3 b x (s2 b x (s1 b x e))
    · rw [upd_same, sixteen_is hl]

/-! ### is_nan -/
def spNan : Sp := fun vs H Q _ => ∃ x : Int, vs = [.int x] ∧ Q (.bl (decide (nanI x))) H
theorem sc_is_nan : FnScope ["single"] ["single"] (defScope s_is_nan) := ⟨rfl, rfl, rfl, by decide +kernel, rfl, by decide +kernel, by decide +kernel⟩
theorem ok_is_nan (T : Txt K mg A) : FnOk P w K mg base CX0 1 A.f_is_nan A.d_is_nan ["single"] spNan := by
  obtain ⟨t1, c1⟩ := T.c_SIGN
  obtain ⟨t2, c2⟩ := T.c_INFINITY
  refine T.F_is_nan.ok sc_is_nan (fun vs H Q E h => ?_) (fun cdv A' outer s H vs Q E hr h => ?_)
  · obtain ⟨x, rfl, _⟩ := h
    rfl
  · obtain ⟨x, rfl, q⟩ := h
    refine ⟨_, pss_one (ps_ret (pe_cmpR op_gt (pe_op op_mod (pv 0) (pe_cint rfl c1)) (pe_cint rfl c2) (nomark _))), ?_⟩
    exact ⟨_, rfl, _, _, rfl, rfl, (by show (0 : Int) < 2147483648; decide), _, _, rfl, rfl, q⟩
/-! ### is_zero -/
def spZer : Sp := fun vs H Q _ => ∃ x : Int, vs = [.int x] ∧ Q (.bl (decide (zerI x))) H
theorem sc_is_zero : FnScope ["single"] ["single"] (defScope s_is_zero) := ⟨rfl, rfl, rfl, by decide +kernel, rfl, by decide +kernel, by decide +kernel⟩
theorem ok_is_zero (T : Txt K mg A) : FnOk P w K mg base CX0 1 A.f_is_zero A.d_is_zero ["single"] spZer := by
  obtain ⟨t1, c1⟩ := T.c_SIGN
  obtain ⟨t2, c2⟩ := T.c_LEAST_NORMAL
  refine T.F_is_zero.ok sc_is_zero (fun vs H Q E h => ?_) (fun cdv A' outer s H vs Q E hr h => ?_)
  · obtain ⟨x, rfl, _⟩ := h
    rfl
  · obtain ⟨x, rfl, q⟩ := h
    refine ⟨_, pss_one (ps_ret (pe_cmpR op_lt (pe_op op_mod (pv 0) (pe_cint rfl c1)) (pe_cint rfl c2) (nomark _))), ?_⟩
    exact ⟨_, rfl, _, _, rfl, rfl, (by show (0 : Int) < 2147483648; decide), _, _, rfl, rfl, q⟩
/-! ### nearest_multiple -/
def spNear : Sp := fun vs H Q _ => ∃ v u : Int, vs = [.int v, .int u] ∧ 0 < u ∧ u.natAbs.log2 < 9000 ∧ Q (.int (nearI v u)) H
theorem sc_nearest_multiple : FnScope ["number", "unit", "count", "rest"] ["number", "unit"] (defScope s_nearest_multiple) := ⟨rfl, rfl, rfl, by decide +kernel, rfl, by decide +kernel, by decide +kernel⟩
theorem ok_nearest_multiple (T : Txt K mg A) : FnOk P w K mg base CX0 1 A.f_nearest_multiple A.d_nearest_multiple ["number", "unit"] spNear := by
  refine T.F_nearest_multiple.ok sc_nearest_multiple (fun vs H Q E h => ?_) (fun cdv A' outer s H vs Q E hr h => ?_)
  · obtain ⟨v, u, rfl, _⟩ := h
    rfl
  · obtain ⟨v, u, rfl, h0, h9, q⟩ := h
    refine ⟨_, pss_cons (ps_set (i := 2) sc_nearest_multiple.nd rfl (.inl rfl) (pe_op op_fdivW (pv 0) (pv 1)))
      (pss_cons (ps_set (i := 3) sc_nearest_multiple.nd rfl (.inl rfl) (pe_op op_mul pe_int (pe_op op_mod (pv 0) (pv 1))))
      (pss_cons (ps_if (PW.pt (pw_or (pt_cmpR op_gt (pv 3) (pv 1) (nomark _)) (pw_or1 (PW.pt (pw_and (pt_cmpR op_eq (pv 3) (pv 1) (nomark _)) (pw_and1 (pt_cmpR op_eq (pe_op op_mod (pv 2) pe_int) pe_int (nomark _))))))))
        (pss_one (ps_ret (pe_op op_add (pv 2) pe_int))) pss_nil)
      (pss_one (ps_ret (pv 2))))), ?_⟩
    refine ⟨_, rfl, _, rfl, _, _, rfl, rfl, ⟨h0, h9⟩, ?_⟩
    refine ⟨_, rfl, _, rfl, _, _, rfl, rfl, h0, _, _, rfl, rfl, .inl ⟨by decide, by decide⟩, ?_⟩
    refine ⟨_, rfl, _, rfl, _, _, rfl, rfl, _, rfl, ite2 (fun e => ?_) (fun d1 => ?_)⟩
    · have e := of_decide_eq_true e
      refine iteT ⟨_, rfl, _, _, rfl, rfl, ?_⟩
      unfold nearI at q
      rw [if_pos (.inl e)] at q
      exact q
    · have d1 : ¬ u < 2 * (v % u) := fun z => d1 (decide_eq_true z)
      refine ⟨_, rfl, _, rfl, rfl, _, rfl, ite2 (fun e => ?_) (fun d2 => ?_)⟩
      · have e : 2 * (v % u) = u := V.int.inj (of_decide_eq_true e)
        refine ⟨_, rfl, _, _, rfl, rfl, (by show (0 : Int) < 2; decide), rfl, _, rfl, ite2 (fun f => ?_) (fun d3 => ?_)⟩
        · have f : v / u % 2 = 1 := V.int.inj (of_decide_eq_true f)
          refine ⟨_, rfl, _, _, rfl, rfl, ?_⟩
          unfold nearI at q
          rw [if_pos (.inr ⟨e, f⟩)] at q
          exact q
        · have d3 : ¬ v / u % 2 = 1 := fun z => d3 (decide_eq_true (congrArg V.int z))
          refine ⟨_, rfl, ?_⟩
          unfold nearI at q
          rw [if_neg (fun z => z.elim d1 fun z => d3 z.2)] at q
          exact q
      · have d2 : ¬ 2 * (v % u) = u := fun z => d2 (decide_eq_true (congrArg V.int z))
        refine iteF ⟨_, rfl, ?_⟩
        unfold nearI at q
        rw [if_neg (fun z => z.elim d1 fun z => d2 z.1)] at q
        exact q
/-! ### bfloat16_of -/
def spBf : Sp := fun vs H Q _ => ∃ x : Int, vs = [.int x] ∧ (0 ≤ x ∧ x < 4294967296) ∧ Q (.int (bfI x)) H
theorem sc_bfloat16_of : FnScope ["single", "upper"] ["single"] (defScope s_bfloat16_of) := ⟨rfl, rfl, rfl, by decide +kernel, rfl, by decide +kernel, by decide +kernel⟩
theorem ok_bfloat16_of (T : Txt K mg A) : FnOk P w K mg base CX0 2 A.f_bfloat16_of A.d_bfloat16_of ["single"] spBf := by
  have G1 : FnOk P w K mg base CX0 1 A.f_is_nan A.d_is_nan ["single"] spNan := ok_is_nan T
  have G2 : FnOk P w K mg base CX0 1 A.f_is_zero A.d_is_zero ["single"] spZer := ok_is_zero T
  have G3 : FnOk P w K mg base CX0 1 A.f_nearest_multiple A.d_nearest_multiple ["number", "unit"] spNear := ok_nearest_multiple T
  obtain ⟨t1, c1⟩ := T.c_SPAN_16
  obtain ⟨t2, c2⟩ := T.c_SIGN
  obtain ⟨t3, c3⟩ := T.c_QUIET_BIT
  refine T.F_bfloat16_of.ok sc_bfloat16_of (fun vs H Q E h => ?_) (fun cdv A' outer s H vs Q E hr h => ?_)
  · obtain ⟨x, rfl, _⟩ := h
    rfl
  · obtain ⟨x, rfl, hx, q⟩ := h
    refine ⟨_, pss_cons (ps_set (i := 1) sc_bfloat16_of.nd rfl (.inl rfl) (pe_op op_fdiv (pv 0) (pe_cint rfl c1)))
      (pss_cons (ps_if (pt_val (pe_call G1 hr (by rfl) T.g_is_nan T.F_is_nan.kp T.b_is_nan .nil pass0 (pa_cons (pv 0) pa_nil))) (pss_one (ps_ret (pe_op op_or (pv 1) (pe_cint rfl c3)))) pss_nil)
      (pss_cons (ps_if (pt_val (pe_call G2 hr (by rfl) T.g_is_zero T.F_is_zero.kp T.b_is_zero .nil pass0 (pa_cons (pv 0) pa_nil))) (pss_one (ps_ret (pe_op op_mul (pe_op op_fdivW (pv 0) (pe_cint rfl c2)) (pe_op op_fdiv (pe_cint rfl c2) (pe_cint rfl c1))))) pss_nil)
      (pss_one (ps_ret (pe_call G3 hr (by rfl) T.g_nearest_multiple T.F_nearest_multiple.kp T.b_nearest_multiple .nil pass0 (pa_cons (pv 0) (pa_cons (pe_cint rfl c1) pa_nil))))))), ?_⟩
    refine ⟨_, rfl, _, _, rfl, rfl, ⟨by decide, by decide⟩, ?_⟩
    refine ⟨_, rfl, x, rfl, _, rfl, ite2 (fun e => ?_) (fun d1 => ?_)⟩
    · have e := of_decide_eq_true e
      refine ⟨_, rfl, _, _, rfl, rfl, ?_⟩
      unfold bfI at q
      rw [if_pos e] at q
      show Q (.int (Builtin.bitOr (x / 65536) 64)) H
      rw [bitOr_nn (by omega) (by decide), show (x / 65536).toNat = x.toNat / 65536 by omega]
      exact q
    have d1 : ¬ nanI x := fun z => d1 (decide_eq_true z)
    refine ⟨_, rfl, x, rfl, _, rfl, ite2 (fun e => ?_) (fun d2 => ?_)⟩
    · have e := of_decide_eq_true e
      refine ⟨_, rfl, _, _, rfl, rfl, ⟨by decide, by decide⟩, _, _, rfl, rfl, ⟨by decide, by decide⟩, _, _, rfl, rfl, .inr ⟨by decide, by decide⟩, ?_⟩
      unfold bfI at q
      rw [if_neg d1, if_pos e] at q
      exact q
    have d2 : ¬ zerI x := fun z => d2 (decide_eq_true z)
    unfold bfI at q
    rw [if_neg d1, if_neg d2] at q
    exact ⟨_, rfl, x, 65536, rfl, by decide, by decide +kernel, q⟩

/-! ### short -/
def spShort (K : PySem.W.Frag) : Sp := fun vs H Q _ => ∃ (al ah : Addr) (l h : List Int), vs = [.ref al, .ref ah] ∧
  SqL K H al (l.map V.int) ∧ SqL K H ah (h.map V.int) ∧ PySv05.short_asked l h = true ∧
  ∀ (H' : Hp) (p : Addr), H' p = some (.lst ((PySv05.short l h).map V.int)) → Q (.ref p) H'
theorem lohi_within {l h : List Int} (hl : ∀ x ∈ l, 0 ≤ x ∧ x < 4294967296) (hh : ∀ x ∈ h, 0 ≤ x ∧ x < 4294967296) (i : Nat) : 0 ≤ lohi l h i ∧ lohi l h i < 4294967296 := by
  unfold lohi
  split
  · exact gi_within (by decide) hl _
  · exact gi_within (by decide) hh _
theorem lohi_is (l h : List Int) : ((List.range 16).map (gi l)).map V.int ++ ((List.range 16).map (gi h)).map V.int = ((List.range 32).map (lohi l h)).map V.int := rfl
theorem sc_short : FnScope ["low", "high", "singles", "answer", "j"] ["low", "high"] (defScope s_short) := ⟨rfl, rfl, rfl, by decide +kernel, rfl, by decide +kernel, by decide +kernel⟩
theorem ok_short (T : Txt K mg A) : FnOk P w K mg base CX0 3 A.f_short A.d_short ["low", "high"] (spShort K) := by
  have G1 : FnOk P w K mg base CX0 1 A.f_sixteen A.d_sixteen ["lanes"] (spSix K) := ok_sixteen T
  have G2 : FnOk P w K mg base CX0 2 A.f_bfloat16_of A.d_bfloat16_of ["single"] spBf := ok_bfloat16_of T
  obtain ⟨t1, c1⟩ := T.c_LANES
  obtain ⟨t2, c2⟩ := T.c_SPAN_16
  refine T.F_short.ok sc_short (fun vs H Q E h => ?_) (fun cdv A' outer s H vs Q E hr h => ?_)
  · obtain ⟨al, ah, l, h, rfl, _⟩ := h
    rfl
  · obtain ⟨al, ah, l, h, rfl, hL, hH, hask, q⟩ := h
    have hr1 : Room 1 _ := hr.mono (by decide)
    refine ⟨_, pss_cons (ps_set (i := 2) sc_short.nd rfl (.inl rfl) (pe_op op_catL (pe_call G1 hr1 (by rfl) T.g_sixteen T.F_sixteen.kp T.b_sixteen .nil pass0 (pa_cons (pv 0) pa_nil)) (pe_call G1 hr1 (by rfl) T.g_sixteen T.F_sixteen.kp T.b_sixteen .nil pass0 (pa_cons (pv 1) pa_nil))))
      (pss_cons (ps_set (i := 3) sc_short.nd rfl (.inl rfl) (pe_lst pa_nil))
      (pss_cons (ps_for PassesOwn.never rfl (pi_range1 (by rfl) T.z_range (pa_cons (pe_cint rfl c1) pa_nil)) (pg_name (i := 4) sc_short.nd rfl (.inl rfl))
        (pss_one (ps_expr (pe_bm PySem.F.plainAttrs_list PySem.F.slot_list_append PySem.F.type_list_append mt_append (pv 3) (pa_cons (pe_op op_add
            (pe_call G2 hr (by rfl) T.g_bfloat16_of T.F_bfloat16_of.kp T.b_bfloat16_of .nil pass0 (pa_cons (pe_ix ix_list (pv 2) (pe_op op_mul pe_int (pv 4)) (fun _ _ => rfl)) pa_nil))
            (pe_op op_mul (pe_cint rfl c2) (pe_call G2 hr (by rfl) T.g_bfloat16_of T.F_bfloat16_of.kp T.b_bfloat16_of .nil pass0 (pa_cons (pe_ix ix_list (pv 2) (pe_op op_add (pe_op op_mul pe_int (pv 4)) pe_int) (fun _ _ => rfl)) pa_nil)))) pa_nil)))))
      (pss_one (ps_ret (pv 3))))), ?_⟩
    obtain ⟨⟨bl, ll⟩, ⟨bh, lh⟩⟩ := short_asked_iff hask
    have ans := short_all bl bh
    refine ⟨_, rfl, al, l, rfl, hL, ll, fun H1 p1 s1 n1 e1 => ?_⟩
    refine ⟨_, rfl, ah, h, rfl, s1.seq hH, lh, fun H2 p2 s2 n2 e2 => ?_⟩
    refine ⟨p1, p2, _, _, rfl, rfl, SqL.of (s2 _ _ e1), SqL.of e2, (by show 32 ≤ sizeLine; decide), fun p3 n3 => ?_⟩
    rw [lohi_is]
    refine ⟨(by show 0 ≤ sizeLine; decide), fun p4 n4 => ?_⟩
    have n43 : p3 ≠ p4 := fun z => by
      rw [← z, upd_same] at n4
      cases n4
    refine ⟨(16 : Int), rfl, by decide, by decide, ?_⟩
    refine for_range (lo := 0) (n := (16 : Int).toNat) (fun j σ H' => ∃ v4, σ = [some (.ref al), some (.ref ah), some (.ref p3), some (.ref p4), v4] ∧
        H' p3 = some (.lst (((List.range 32).map (lohi l h)).map V.int)) ∧ H' p4 = some (.lst (((List.range j).map (shortI l h)).map V.int)))
      ⟨none, rfl, (by rw [upd_ne n43, upd_same]), upd_same⟩ ?_ ?_
    · rintro j σ H' hj ⟨v4, rfl, f3, f4⟩
      have hj : j < 16 := hj
      rw [Int.zero_add]
      refine ⟨_, rfl, .inl ⟨rfl, _, SqL.of f4⟩, ?_⟩
      refine ⟨_, rfl, _, rfl, _, _, rfl, rfl, .inl ⟨by decide, by decide⟩, p3, _, _, .int (lohi l h (2 * j)), rfl, rfl, SqL.of f3, ?_, ?_⟩
      · rw [show (2 : Int) * (j : Int) = ((2 * j : Nat) : Int) by omega, ← gi_range (f := lohi l h) (n := 32) (show 2 * j < 32 by omega)]
        exact atI_nat (at_map (by rw [List.length_map, List.length_range]; omega))
      have b1 := bf_within (lohi_within bl bh (2 * j))
      have b2 := bf_within (lohi_within bl bh (2 * j + 1))
      refine ⟨_, rfl, lohi_within bl bh _, ?_⟩
      refine ⟨_, rfl, _, rfl, _, _, rfl, rfl, .inl ⟨by decide, by decide⟩, _, _, rfl, rfl, p3, _, _, .int (lohi l h (2 * j + 1)), rfl, rfl, SqL.of f3, ?_, ?_⟩
      · rw [show (2 : Int) * (j : Int) + 1 = ((2 * j + 1 : Nat) : Int) by omega, ← gi_range (f := lohi l h) (n := 32) (show 2 * j + 1 < 32 by omega)]
        exact atI_nat (at_map (by rw [List.length_map, List.length_range]; omega))
      refine ⟨_, rfl, lohi_within bl bh _, ?_⟩
      refine ⟨_, _, rfl, rfl, .inl ⟨by decide, by decide⟩, _, _, rfl, rfl, p4, _, _, rfl, rfl, f4, ?_, ?_⟩
      · rw [List.length_map, List.length_map, List.length_range]
        exact Nat.lt_of_le_of_lt (show j ≤ 16 by omega) (by decide)
      · refine ⟨_, rfl, ?_, ?_⟩
        · rw [upd_ne n43]
          exact f3
        · rw [upd_same, List.range_succ, List.map_append, List.map_append]
          rfl
    · rintro σ H' ⟨v4, rfl, f3, f4⟩
      refine ⟨_, rfl, q H' p4 ?_⟩
      rw [ans]
      exact f4

end
/-! ### the end -/
theorem all_mk {P : Program} {w : World} {K : PySem.W.Frag} {h : Heap} {mg : Str → Option Value} {fa f0 f1 f2 f3 f4 f5 : Addr} (X : K.In h) (G : h.Ns mainGlobals mg) (hfa : mg "short" = some (.ref fa))
    {od0 an0 od1 an1 od2 an2 od3 an3 od4 an4 od5 an5 : Option Addr} {sl0 sl1 sl2 sl3 sl4 sl5 : Array (Option Value)} {oc0 kV0 dc0 pm0 cd0 ct0 oc1 kV1 dc1 pm1 cd1 ct1 oc2 kV2 dc2 pm2 cd2 ct2 oc3 kV3 dc3 pm3 cd3 ct3 oc4 kV4 dc4 pm4 cd4 ct4 oc5 kV5 dc5 pm5 cd5 ct5 : Value}
    {t0 t1 t2 t3 t4 t5 : _}
    (a0 : PySem.W.nsIn K mainGlobals "sixteen" = some (some (.ref f0))) (l0 : K.lookup f0 = some ⟨oc0, od0, .func (PySem.W.fnOf "sixteen" "sixteen" (defArgs s_sixteen) (defBody s_sixteen) (defScope s_sixteen) .none kV0 dc0 pm0 an0 cd0 ct0), sl0⟩) (c0 : PySem.W.codeIn K cd0 "sixteen" = true) (k0 : PySem.W.keepIn K (.ref f0) = true)
    (a1 : PySem.W.nsIn K mainGlobals "is_nan" = some (some (.ref f1))) (l1 : K.lookup f1 = some ⟨oc1, od1, .func (PySem.W.fnOf "is_nan" "is_nan" (defArgs s_is_nan) (defBody s_is_nan) (defScope s_is_nan) .none kV1 dc1 pm1 an1 cd1 ct1), sl1⟩) (c1 : PySem.W.codeIn K cd1 "is_nan" = true) (k1 : PySem.W.keepIn K (.ref f1) = true)
    (a2 : PySem.W.nsIn K mainGlobals "is_zero" = some (some (.ref f2))) (l2 : K.lookup f2 = some ⟨oc2, od2, .func (PySem.W.fnOf "is_zero" "is_zero" (defArgs s_is_zero) (defBody s_is_zero) (defScope s_is_zero) .none kV2 dc2 pm2 an2 cd2 ct2), sl2⟩) (c2 : PySem.W.codeIn K cd2 "is_zero" = true) (k2 : PySem.W.keepIn K (.ref f2) = true)
    (a3 : PySem.W.nsIn K mainGlobals "nearest_multiple" = some (some (.ref f3))) (l3 : K.lookup f3 = some ⟨oc3, od3, .func (PySem.W.fnOf "nearest_multiple" "nearest_multiple" (defArgs s_nearest_multiple) (defBody s_nearest_multiple) (defScope s_nearest_multiple) .none kV3 dc3 pm3 an3 cd3 ct3), sl3⟩) (c3 : PySem.W.codeIn K cd3 "nearest_multiple" = true) (k3 : PySem.W.keepIn K (.ref f3) = true)
    (a4 : PySem.W.nsIn K mainGlobals "bfloat16_of" = some (some (.ref f4))) (l4 : K.lookup f4 = some ⟨oc4, od4, .func (PySem.W.fnOf "bfloat16_of" "bfloat16_of" (defArgs s_bfloat16_of) (defBody s_bfloat16_of) (defScope s_bfloat16_of) .none kV4 dc4 pm4 an4 cd4 ct4), sl4⟩) (c4 : PySem.W.codeIn K cd4 "bfloat16_of" = true) (k4 : PySem.W.keepIn K (.ref f4) = true)
    (a5 : PySem.W.nsIn K mainGlobals "short" = some (some (.ref f5))) (l5 : K.lookup f5 = some ⟨oc5, od5, .func (PySem.W.fnOf "short" "short" (defArgs s_short) (defBody s_short) (defScope s_short) .none kV5 dc5 pm5 an5 cd5 ct5), sl5⟩) (c5 : PySem.W.codeIn K cd5 "short" = true) (k5 : PySem.W.keepIn K (.ref f5) = true)
    (g0 : PySem.W.nsIn K mainGlobals "LANES" = some (some (.int (16) t0)))
    (g1 : PySem.W.nsIn K mainGlobals "SPAN_16" = some (some (.int (65536) t1)))
    (g2 : PySem.W.nsIn K mainGlobals "SIGN" = some (some (.int (2147483648) t2)))
    (g3 : PySem.W.nsIn K mainGlobals "LEAST_NORMAL" = some (some (.int (8388608) t3)))
    (g4 : PySem.W.nsIn K mainGlobals "INFINITY" = some (some (.int (2139095040) t4)))
    (g5 : PySem.W.nsIn K mainGlobals "QUIET_BIT" = some (some (.int (64) t5)))
    (z0 : PySem.W.nsIn K mainGlobals "len" = some none)
    (z1 : PySem.W.nsIn K mainGlobals "range" = some none)
    : ∃ fd : FuncData, (∀ (s : Shared) (us : List Value), us.length = (["low", "high"] : List Str).length → BindsTo s fd ⟨us, []⟩ ((["low", "high"] : List Str).zip us)) ∧ ∀ base : Heap, K.In base → base.Ns mainGlobals mg → FnOk P w K mg base CX0 3 fa fd ["low", "high"] (spShort K) := by
  have e := hfa.symm.trans (PySem.W.mg_of X G a5)
  cases e
  have F0 := fun_mk (st := s_sixteen) l0 c0 k0
  have b0 := F0.binds (ps := ["lanes"]) fun _ _ _ _ _ _ us hl => match us, hl with | [_], _ => rfl
  have F1 := fun_mk (st := s_is_nan) l1 c1 k1
  have b1 := F1.binds (ps := ["single"]) fun _ _ _ _ _ _ us hl => match us, hl with | [_], _ => rfl
  have F2 := fun_mk (st := s_is_zero) l2 c2 k2
  have b2 := F2.binds (ps := ["single"]) fun _ _ _ _ _ _ us hl => match us, hl with | [_], _ => rfl
  have F3 := fun_mk (st := s_nearest_multiple) l3 c3 k3
  have b3 := F3.binds (ps := ["number", "unit"]) fun _ _ _ _ _ _ us hl => match us, hl with | [_, _], _ => rfl
  have F4 := fun_mk (st := s_bfloat16_of) l4 c4 k4
  have b4 := F4.binds (ps := ["single"]) fun _ _ _ _ _ _ us hl => match us, hl with | [_], _ => rfl
  have F5 := fun_mk (st := s_short) l5 c5 k5
  have b5 := F5.binds (ps := ["low", "high"]) fun _ _ _ _ _ _ us hl => match us, hl with | [_, _], _ => rfl
  have T : Txt K mg ⟨_, _, _, _, _, _, _, _, _, _, _, _⟩ := ⟨F0, b0, PySem.W.mg_of X G a0, F1, b1, PySem.W.mg_of X G a1, F2, b2, PySem.W.mg_of X G a2, F3, b3, PySem.W.mg_of X G a3, F4, b4, PySem.W.mg_of X G a4, F5, b5, PySem.W.mg_of X G a5, ⟨_, PySem.W.mg_of X G g0⟩, ⟨_, PySem.W.mg_of X G g1⟩, ⟨_, PySem.W.mg_of X G g2⟩, ⟨_, PySem.W.mg_of X G g3⟩, ⟨_, PySem.W.mg_of X G g4⟩, ⟨_, PySem.W.mg_of X G g5⟩, PySem.W.mg_none_of X G z0, PySem.W.mg_none_of X G z1⟩
  exact ⟨_, fun s us hu => match us, hu with | [_, _], _ => .of_eq rfl, fun base _ _ => ok_short T⟩
end Sp
open PySem PySem.W PyProof.Rows
set_option maxRecDepth 100000 in
set_option maxHeartbeats 8000000 in
theorem PySem.Challenge.cw_smallproducts_s05_short_holds : PySem.Challenge.rw_smallproducts_s05_short.Holds := by
  w_on; k_headS; (case hw => exact ⟨[.list [], .list []], by decide +kernel, by decide +kernel⟩)
  k_fillS
  refine L2.walk_specK (r := PySem.Challenge.rw_smallproducts_s05_short) (k := 3) (CX := L2.CX0) (ps := ["low", "high"]) (sp := Sp.spShort) (by decide +kernel) rfl rfl ⟨rfl, by decide, by decide⟩ (fun w h Y => PySem.W.kIn_of Y) ?F ?S (fun _ _ _ _ z => z)
  case F =>
    intro w mg fa h Y KX G hmg
    refine' Sp.all_mk KX G hmg ?my_a0 ?my_l0 ?my_c0 ?my_k0 ?my_a1 ?my_l1 ?my_c1 ?my_k1 ?my_a2 ?my_l2 ?my_c2 ?my_k2 ?my_a3 ?my_l3 ?my_c3 ?my_k3 ?my_a4 ?my_l4 ?my_c4 ?my_k4 ?my_a5 ?my_l5 ?my_c5 ?my_k5 ?my_g0 ?my_g1 ?my_g2 ?my_g3 ?my_g4 ?my_g5 ?my_z0 ?my_z1
    (case my_a0 => k_is)
    (case my_l0 => k_is)
    (case my_c0 => k_is)
    (case my_k0 => k_is)
    (case my_a1 => k_is)
    (case my_l1 => k_is)
    (case my_c1 => k_is)
    (case my_k1 => k_is)
    (case my_a2 => k_is)
    (case my_l2 => k_is)
    (case my_c2 => k_is)
    (case my_k2 => k_is)
    (case my_a3 => k_is)
    (case my_l3 => k_is)
    (case my_c3 => k_is)
    (case my_k3 => k_is)
    (case my_a4 => k_is)
    (case my_l4 => k_is)
    (case my_c4 => k_is)
    (case my_k4 => k_is)
    (case my_a5 => k_is)
    (case my_l5 => k_is)
    (case my_c5 => k_is)
    (case my_k5 => k_is)
    (case my_g0 => k_is)
    (case my_g1 => k_is)
    (case my_g2 => k_is)
    (case my_g3 => k_is)
    (case my_g4 => k_is)
    (case my_g5 => k_is)
    (case my_z0 => k_is)
    (case my_z1 => k_is)
  case S =>
    intro K H xs a hO hwi hask hx
    obtain ⟨l, h, u⟩ := a
    cases hx with
    | cons h1 hx =>
    cases hx with
    | cons h2 hx =>
    cases hx
    cases h1 with
    | lst s3 d3 =>
    cases h2 with
    | lst s4 d4 =>
    have e3 := L2.ints_dw l _ d3
    have e4 := L2.ints_dw h _ d4
    subst e3 e4
    exact ⟨_, _, l, h, rfl, s3, s4, hask, fun H' p hp => .lst (L2.SqL.of hp) (L2.dw_ints _)⟩
#print axioms PySem.Challenge.cw_smallproducts_s05_short_holds

/- A bundle of texts: P Q HA HT HU HV. -/
import Derived.KernelRfl
namespace Go.Proofs.YtljijnanmpajaaaGreat
set_option maxRecDepth 100000
def sizes : List Int := [2, 3, 4, 5, 7, 8, 9, 11, 13, 16]
/-- q is a size. -/
def isSz (q : Int) : Bool := sizes.contains q
/-- The prime of a size. -/
def pr (q : Int) : Int := if q = 4 ∨ q = 8 ∨ q = 16 then 2 else if q = 9 then 3 else q
/-- The places of a size. -/
def plN (q : Int) : Nat := if q = 16 then 4 else if q = 8 then 3 else if q = 4 ∨ q = 9 then 2 else 1
def pl (q : Int) : Int := (plN q : Int)

theorem sz_split (q : Int) (h : isSz q = true) : q = 2 ∨ q = 3 ∨ q = 4 ∨ q = 5 ∨ q = 7 ∨ q = 8 ∨ q = 9 ∨ q = 11 ∨ q = 13 ∨ q = 16 := by
  have h' : q ∈ sizes := by simpa [isSz] using h
  simp only [sizes, List.mem_cons, List.not_mem_nil, or_false] at h'
  omega
theorem nsz_split (q : Int) (h : isSz q = false) : q < 2 ∨ q = 6 ∨ q = 10 ∨ q = 12 ∨ q = 14 ∨ q = 15 ∨ 16 < q := by
  have h' : ¬ q ∈ sizes := by
    intro hm
    have : isSz q = true := by simpa [isSz] using hm
    rw [h] at this; cases this
  simp only [sizes, List.mem_cons, List.not_mem_nil, or_false] at h'
  omega
theorem isSz_le (q : Int) (h : isSz q = true) : 2 ≤ q ∧ q ≤ 16 := by
  have := sz_split q h
  omega
theorem pr_bd (q : Int) (h : isSz q = true) : 2 ≤ pr q ∧ pr q ≤ 13 := by
  rcases sz_split q h with rfl | rfl | rfl | rfl | rfl | rfl | rfl | rfl | rfl | rfl <;> decide
theorem plN_bd (q : Int) (h : isSz q = true) : 1 ≤ plN q ∧ plN q ≤ 4 := by
  rcases sz_split q h with rfl | rfl | rfl | rfl | rfl | rfl | rfl | rfl | rfl | rfl <;> decide

/-! ### what is checked at every size and every element -/
def chk1 (f : Int → Int → Bool) : Bool := sizes.all fun q => (List.range q.toNat).all fun a => f q (a : Int)
theorem of_chk1 {f : Int → Int → Bool} (h : chk1 f = true) (q a : Int) (hq : isSz q = true) (a0 : 0 ≤ a) (a1 : a < q) : f q a = true := by
  have hm : q ∈ sizes := by simpa [isSz] using hq
  have h1 := List.all_eq_true.1 (List.all_eq_true.1 h q hm) a.toNat (List.mem_range.2 (by omega))
  have e : ((a.toNat : Nat) : Int) = a := by omega
  rw [e] at h1
  exact h1
def chk2 (f : Int → Int → Int → Bool) : Bool := sizes.all fun q => (List.range q.toNat).all fun a => (List.range q.toNat).all fun b => f q (a : Int) (b : Int)
theorem of_chk2 {f : Int → Int → Int → Bool} (h : chk2 f = true) (q a b : Int) (hq : isSz q = true) (a0 : 0 ≤ a) (a1 : a < q) (b0 : 0 ≤ b) (b1 : b < q) : f q a b = true := by
  have hm : q ∈ sizes := by simpa [isSz] using hq
  have h1 := List.all_eq_true.1 (List.all_eq_true.1 (List.all_eq_true.1 h q hm) a.toNat (List.mem_range.2 (by omega))) b.toNat (List.mem_range.2 (by omega))
  have e : ((a.toNat : Nat) : Int) = a := by omega
  have e' : ((b.toNat : Nat) : Int) = b := by omega
  rw [e, e'] at h1
  exact h1
def chk3 (f : Int → Int → Int → Int → Bool) : Bool := sizes.all fun q => (List.range q.toNat).all fun a => (List.range q.toNat).all fun b => (List.range q.toNat).all fun c => f q (a : Int) (b : Int) (c : Int)
theorem of_chk3 {f : Int → Int → Int → Int → Bool} (h : chk3 f = true) (q a b c : Int) (hq : isSz q = true) (a0 : 0 ≤ a) (a1 : a < q) (b0 : 0 ≤ b) (b1 : b < q) (c0 : 0 ≤ c) (c1 : c < q) : f q a b c = true := by
  have hm : q ∈ sizes := by simpa [isSz] using hq
  have h1 := List.all_eq_true.1 (List.all_eq_true.1 (List.all_eq_true.1 (List.all_eq_true.1 h q hm) a.toNat (List.mem_range.2 (by omega))) b.toNat (List.mem_range.2 (by omega))) c.toNat (List.mem_range.2 (by omega))
  have e : ((a.toNat : Nat) : Int) = a := by omega
  have e' : ((b.toNat : Nat) : Int) = b := by omega
  have e'' : ((c.toNat : Nat) : Int) = c := by omega
  rw [e, e', e''] at h1
  exact h1

/-! ### tables: the entry of a and b is digit 16 a + b in the base 16 -/
def addTab (q : Nat) : Nat := match q with
  | 2 => 0x10000000000000010
  | 3 => 0x10200000000000000210000000000000210
  | 4 => 0x123000000000000103200000000000023010000000000003210
  | 5 => 0x321040000000000021043000000000001043200000000000043210000000000043210
  | 7 => 0x5432106000000000432106500000000032106540000000002106543000000000106543200000000006543210000000006543210
  | 8 => 0x12345670000000010325476000000002301674500000000321076540000000045670123000000005476103200000000674523010000000076543210
  | 9 => 0x43510276800000003540216870000000543210876000000010276843500000000216873540000000210876543000000076843510200000006873540210000000876543210
  | 11 => 0x9876543210a00000876543210a90000076543210a98000006543210a98700000543210a98760000043210a98765000003210a98765400000210a98765430000010a98765432000000a98765432100000a9876543210
  | 13 => 0xba9876543210c000a9876543210cb0009876543210cba000876543210cba900076543210cba980006543210cba987000543210cba987600043210cba987650003210cba987654000210cba987654300010cba987654320000cba987654321000cba9876543210
  | 16 => 0x123456789abcdef1032547698badcfe23016745ab89efcd32107654ba98fedc45670123cdef89ab54761032dcfe98ba67452301efcdab8976543210fedcba9889abcdef0123456798badcfe10325476ab89efcd23016745ba98fedc32107654cdef89ab45670123dcfe98ba54761032efcdab8967452301fedcba9876543210
  | _ => 0
def subTab (q : Nat) : Nat := match q with
  | 2 => 0x10000000000000010
  | 3 => 0x1200000000000002010000000000000120
  | 4 => 0x123000000000000103200000000000023010000000000003210
  | 5 => 0x12340000000000040123000000000003401200000000000234010000000000012340
  | 7 => 0x123456000000000601234500000000056012340000000004560123000000000345601200000000023456010000000001234560
  | 8 => 0x12345670000000010325476000000002301674500000000321076540000000045670123000000005476103200000000674523010000000076543210
  | 9 => 0x1234567800000002015348670000000120453786000000067801234500000008672015340000000786120453000000034567801200000005348672010000000453786120
  | 11 => 0x123456789a00000a0123456789000009a0123456780000089a0123456700000789a0123456000006789a0123450000056789a0123400000456789a0123000003456789a0120000023456789a0100000123456789a0
  | 13 => 0x123456789abc000c0123456789ab000bc0123456789a000abc01234567890009abc01234567800089abc01234567000789abc01234560006789abc01234500056789abc01234000456789abc01230003456789abc01200023456789abc01000123456789abc0
  | 16 => 0x123456789abcdef1032547698badcfe23016745ab89efcd32107654ba98fedc45670123cdef89ab54761032dcfe98ba67452301efcdab8976543210fedcba9889abcdef0123456798badcfe10325476ab89efcd23016745ba98fedc32107654cdef89ab45670123dcfe98ba54761032efcdab8967452301fedcba9876543210
  | _ => 0
def mulTab (q : Nat) : Nat := match q with
  | 2 => 0x100000000000000000
  | 3 => 0x12000000000000002100000000000000000
  | 4 => 0x2130000000000000132000000000000032100000000000000000
  | 5 => 0x123400000000000024130000000000003142000000000000432100000000000000000
  | 7 => 0x1234560000000000246135000000000036251400000000004152630000000000531642000000000065432100000000000000000
  | 8 => 0x346125700000000042351760000000006372415000000000152673400000000021475630000000005713642000000000765432100000000000000000
  | 9 => 0x61523748000000001386245700000000582471360000000026431875000000003271658400000000741852630000000045378612000000008765432100000000000000000
  | 11 => 0x123456789a0000002468a13579000000369147a2580000004815926a370000005a4938271600000061728394a500000073a6295184000000852a74196300000097531a8642000000a98765432100000000000000000
  | 13 => 0x123456789abc00002468ac13579b0000369c258b147a000048c37b26a15900005a27c4916b3800006c5b4a3928170000718293a4b5c6000083b6194c72a50000951a62b73c840000a741b852c9630000b97531ca86420000cba98765432100000000000000000
  | 16 => 0xa5783ce1b4692df05ba48679c23d1fe07ae36bf258c149d0843fd16a2e957bc0386d92c74f1ae5b0c6b1285f394ed7a0e7f6c5d4a3b28190192a7f4cd5e6b380bc5243ad618f9e70428ef93517dbac6063c914be8d27fa509d15ae26fb73c8402147ed8b9afc5630df9b5713eca86420fedcba98765432100000000000000000
  | _ => 0
def look (t : Nat) (a b : Int) : Int := ((t >>> (4 * (16 * a.toNat + b.toNat)) &&& 15 : Nat) : Int)
/-- Sum, difference, product of two elements. -/
def addF (q a b : Int) : Int := look (addTab q.toNat) a b
def subF (q a b : Int) : Int := look (subTab q.toNat) a b
def mulF (q a b : Int) : Int := look (mulTab q.toNat) a b

set_option maxRecDepth 100000
theorem addF_bd (q a b : Int) (hq : isSz q = true) (a0 : 0 ≤ a) (a1 : a < q) (b0 : 0 ≤ b) (b1 : b < q) : 0 ≤ addF q a b ∧ addF q a b < q :=
  of_decide_eq_true (of_chk2 (f := fun q a b => decide (0 ≤ addF q a b ∧ addF q a b < q)) (by decide +kernel) q a b hq a0 a1 b0 b1)
theorem subF_bd (q a b : Int) (hq : isSz q = true) (a0 : 0 ≤ a) (a1 : a < q) (b0 : 0 ≤ b) (b1 : b < q) : 0 ≤ subF q a b ∧ subF q a b < q :=
  of_decide_eq_true (of_chk2 (f := fun q a b => decide (0 ≤ subF q a b ∧ subF q a b < q)) (by decide +kernel) q a b hq a0 a1 b0 b1)
theorem mulF_bd (q a b : Int) (hq : isSz q = true) (a0 : 0 ≤ a) (a1 : a < q) (b0 : 0 ≤ b) (b1 : b < q) : 0 ≤ mulF q a b ∧ mulF q a b < q :=
  of_decide_eq_true (of_chk2 (f := fun q a b => decide (0 ≤ mulF q a b ∧ mulF q a b < q)) (by decide +kernel) q a b hq a0 a1 b0 b1)
theorem mulF_assoc (q a b c : Int) (hq : isSz q = true) (a0 : 0 ≤ a) (a1 : a < q) (b0 : 0 ≤ b) (b1 : b < q) (c0 : 0 ≤ c) (c1 : c < q) : mulF q (mulF q a b) c = mulF q a (mulF q b c) :=
  of_decide_eq_true (of_chk3 (f := fun q a b c => decide (mulF q (mulF q a b) c = mulF q a (mulF q b c))) (by decide +kernel) q a b c hq a0 a1 b0 b1 c0 c1)

/-! ### digits -/
def digs : Nat → Int → Int → List Int
  | 0, _, _ => []
  | k + 1, p, a => a % p :: digs k p (a / p)
def frm (p : Int) : List Int → Int
  | [] => 0
  | d :: ds => frm p ds * p + d
/-- The digits of an element. -/
def dg (q a : Int) (i : Nat) : Int := (digs (plN q) (pr q) a).getD i 0
/-! ### the model's own ways: lists of digits -/
def AllIn (p : Int) (l : List Int) : Prop := ∀ d ∈ l, 0 ≤ d ∧ d < p
theorem AllIn.getD {p : Int} {l : List Int} (h : AllIn p l) (hp : 0 < p) (i : Nat) : 0 ≤ l.getD i 0 ∧ l.getD i 0 < p := by
  rw [List.getD_eq_getElem?_getD]
  cases e : l[i]? with
  | none => exact ⟨Int.le_refl _, hp⟩
  | some d => exact h d (List.mem_of_getElem? e)
theorem AllIn.set {p : Int} {l : List Int} (h : AllIn p l) (i : Nat) {x : Int} (h0 : 0 ≤ x) (h1 : x < p) : AllIn p (l.set i x) := by
  intro d hd
  rcases List.mem_or_eq_of_mem_set hd with hd | rfl
  · exact h d hd
  · exact ⟨h0, h1⟩
theorem digs_len (k : Nat) (p a : Int) : (digs k p a).length = k := by
  induction k generalizing a with
  | zero => rfl
  | succ k ih => simp [digs, ih]
theorem digs_in (k : Nat) (p a : Int) (hp : 0 < p) : AllIn p (digs k p a) := by
  induction k generalizing a with
  | zero => intro d hd; cases hd
  | succ k ih =>
    intro d hd
    simp only [digs, List.mem_cons] at hd
    rcases hd with rfl | hd
    · exact ⟨Int.emod_nonneg _ (by omega), Int.emod_lt_of_pos _ hp⟩
    · exact ih _ d hd
theorem frm_bd (p : Int) (hp : 0 < p) (l : List Int) (h : AllIn p l) : 0 ≤ frm p l ∧ frm p l < p ^ l.length := by
  induction l with
  | nil => exact ⟨Int.le_refl _, by simp [frm]⟩
  | cons d ds ih =>
    obtain ⟨a, b⟩ := ih fun x hx => h x (List.mem_cons_of_mem _ hx)
    obtain ⟨c, e⟩ := h d List.mem_cons_self
    simp only [frm, List.length_cons]
    have e2 : p ^ (ds.length + 1) = p ^ ds.length * p := Int.pow_succ _ _
    have e3 : (frm p ds + 1) * p ≤ p ^ ds.length * p := Int.mul_le_mul_of_nonneg_right (by omega) (by omega)
    have e4 : (frm p ds + 1) * p = frm p ds * p + p := by rw [Int.add_mul, Int.one_mul]
    have e5 : 0 ≤ frm p ds * p := Int.mul_nonneg a (by omega)
    omega
theorem pow_le (p : Int) (h2 : 0 ≤ p) (h : p ≤ 13) (n : Nat) (hn : n ≤ 7) : p ^ n ≤ 62748517 := by
  have h1 : ∀ n : Nat, p ^ n ≤ 13 ^ n ∧ 0 ≤ p ^ n := by
    intro n
    induction n with
    | zero => exact ⟨by simp, by simp⟩
    | succ n ih =>
      rw [Int.pow_succ, Int.pow_succ]
      exact ⟨Int.mul_le_mul ih.1 h h2 (Int.le_trans ih.2 ih.1), Int.mul_nonneg ih.2 h2⟩
  have h3 := (h1 n).1
  have : n = 0 ∨ n = 1 ∨ n = 2 ∨ n = 3 ∨ n = 4 ∨ n = 5 ∨ n = 6 ∨ n = 7 := by omega
  rcases this with rfl | rfl | rfl | rfl | rfl | rfl | rfl | rfl <;> exact Int.le_trans h3 (by decide)

def plusTo (p : Int) (y x : List Int) (i : Nat) : List Int := (List.range i).foldl (fun L j => L.set j ((L.getD j 0 + y.getD j 0) % p)) x
theorem plusTo_succ (p : Int) (y x : List Int) (i : Nat) : plusTo p y x (i + 1) = (plusTo p y x i).set i (((plusTo p y x i).getD i 0 + y.getD i 0) % p) := by
  simp [plusTo, List.range_succ, List.foldl_append]
def lessTo (p : Int) (y x : List Int) (i : Nat) : List Int := (List.range i).foldl (fun L j => L.set j ((L.getD j 0 + p - y.getD j 0) % p)) x
theorem lessTo_succ (p : Int) (y x : List Int) (i : Nat) : lessTo p y x (i + 1) = (lessTo p y x i).set i (((lessTo p y x i).getD i 0 + p - y.getD i 0) % p) := by
  simp [lessTo, List.range_succ, List.foldl_append]
theorem plusTo_in (p : Int) (y x : List Int) (i : Nat) (hp : 0 < p) (hx : AllIn p x) : AllIn p (plusTo p y x i) ∧ (plusTo p y x i).length = x.length := by
  induction i with
  | zero => exact ⟨hx, rfl⟩
  | succ i ih => rw [plusTo_succ]; exact ⟨ih.1.set _ (Int.emod_nonneg _ (by omega)) (Int.emod_lt_of_pos _ hp), by rw [List.length_set]; exact ih.2⟩
theorem lessTo_in (p : Int) (y x : List Int) (i : Nat) (hp : 0 < p) (hx : AllIn p x) : AllIn p (lessTo p y x i) ∧ (lessTo p y x i).length = x.length := by
  induction i with
  | zero => exact ⟨hx, rfl⟩
  | succ i ih => rw [lessTo_succ]; exact ⟨ih.1.set _ (Int.emod_nonneg _ (by omega)) (Int.emod_lt_of_pos _ hp), by rw [List.length_set]; exact ih.2⟩
theorem plus_model (q a b : Int) (hq : isSz q = true) (a0 : 0 ≤ a) (a1 : a < q) (b0 : 0 ≤ b) (b1 : b < q) :
    frm (pr q) (plusTo (pr q) (digs (plN q) (pr q) b) (digs (plN q) (pr q) a) (plN q)) = addF q a b :=
  of_decide_eq_true (of_chk2 (f := fun q a b => decide (frm (pr q) (plusTo (pr q) (digs (plN q) (pr q) b) (digs (plN q) (pr q) a) (plN q)) = addF q a b)) (by decide +kernel) q a b hq a0 a1 b0 b1)
theorem less_model (q a b : Int) (hq : isSz q = true) (a0 : 0 ≤ a) (a1 : a < q) (b0 : 0 ≤ b) (b1 : b < q) :
    frm (pr q) (lessTo (pr q) (digs (plN q) (pr q) b) (digs (plN q) (pr q) a) (plN q)) = subF q a b :=
  of_decide_eq_true (of_chk2 (f := fun q a b => decide (frm (pr q) (lessTo (pr q) (digs (plN q) (pr q) b) (digs (plN q) (pr q) a) (plN q)) = subF q a b)) (by decide +kernel) q a b hq a0 a1 b0 b1)

/-- What the model multiplies modulo: the coefficients but the greatest. -/
def mdl (q : Int) : List Int := if q = 4 then [1, 1] else if q = 8 then [1, 1, 0] else if q = 9 then [1, 0] else if q = 16 then [1, 1, 0, 0] else [0]
def inTo (p : Int) (y : List Int) (u : Int) (i : Nat) (P : List Int) (j : Nat) : List Int := (List.range j).foldl (fun P t => P.set (i + t) ((P.getD (i + t) 0 + u * y.getD t 0) % p)) P
theorem inTo_succ (p : Int) (y : List Int) (u : Int) (i : Nat) (P : List Int) (j : Nat) : inTo p y u i P (j + 1) = (inTo p y u i P j).set (i + j) (((inTo p y u i P j).getD (i + j) 0 + u * y.getD j 0) % p) := by
  simp [inTo, List.range_succ, List.foldl_append]
def outTo (p : Int) (y x P : List Int) (i : Nat) : List Int := (List.range i).foldl (fun P s => inTo p y (x.getD s 0) s P y.length) P
theorem outTo_succ (p : Int) (y x P : List Int) (i : Nat) : outTo p y x P (i + 1) = inTo p y (x.getD i 0) i (outTo p y x P i) y.length := by
  simp [outTo, List.range_succ, List.foldl_append]
def rinTo (p : Int) (k : Nat) (m : List Int) (i : Nat) (P : List Int) (j : Nat) : List Int := (List.range j).foldl (fun P t => P.set (i - k + t) ((P.getD (i - k + t) 0 + (p - m.getD t 0) * P.getD i 0) % p)) P
theorem rinTo_succ (p : Int) (k : Nat) (m : List Int) (i : Nat) (P : List Int) (j : Nat) : rinTo p k m i P (j + 1) = (rinTo p k m i P j).set (i - k + j) (((rinTo p k m i P j).getD (i - k + j) 0 + (p - m.getD j 0) * (rinTo p k m i P j).getD i 0) % p) := by
  simp [rinTo, List.range_succ, List.foldl_append]
def routTo (p : Int) (k : Nat) (m P : List Int) (n : Nat) : List Int := (List.range n).foldl (fun P s => rinTo p k m (2 * k - 2 - s) P m.length) P
theorem routTo_succ (p : Int) (k : Nat) (m P : List Int) (n : Nat) : routTo p k m P (n + 1) = rinTo p k m (2 * k - 2 - n) (routTo p k m P n) m.length := by
  simp [routTo, List.range_succ, List.foldl_append]
theorem inTo_in (p : Int) (y : List Int) (u : Int) (i : Nat) (P : List Int) (j : Nat) (hp : 0 < p) (hP : AllIn p P) : AllIn p (inTo p y u i P j) ∧ (inTo p y u i P j).length = P.length := by
  induction j with
  | zero => exact ⟨hP, rfl⟩
  | succ j ih => rw [inTo_succ]; exact ⟨ih.1.set _ (Int.emod_nonneg _ (by omega)) (Int.emod_lt_of_pos _ hp), by rw [List.length_set]; exact ih.2⟩
theorem outTo_in (p : Int) (y x P : List Int) (i : Nat) (hp : 0 < p) (hP : AllIn p P) : AllIn p (outTo p y x P i) ∧ (outTo p y x P i).length = P.length := by
  induction i with
  | zero => exact ⟨hP, rfl⟩
  | succ i ih => rw [outTo_succ]; have := inTo_in p y (x.getD i 0) i _ y.length hp ih.1; exact ⟨this.1, this.2.trans ih.2⟩
theorem rinTo_in (p : Int) (k : Nat) (m : List Int) (i : Nat) (P : List Int) (j : Nat) (hp : 0 < p) (hP : AllIn p P) : AllIn p (rinTo p k m i P j) ∧ (rinTo p k m i P j).length = P.length := by
  induction j with
  | zero => exact ⟨hP, rfl⟩
  | succ j ih => rw [rinTo_succ]; exact ⟨ih.1.set _ (Int.emod_nonneg _ (by omega)) (Int.emod_lt_of_pos _ hp), by rw [List.length_set]; exact ih.2⟩
theorem routTo_in (p : Int) (k : Nat) (m P : List Int) (n : Nat) (hp : 0 < p) (hP : AllIn p P) : AllIn p (routTo p k m P n) ∧ (routTo p k m P n).length = P.length := by
  induction n with
  | zero => exact ⟨hP, rfl⟩
  | succ n ih => rw [routTo_succ]; have := rinTo_in p k m (2 * k - 2 - n) _ m.length hp ih.1; exact ⟨this.1, this.2.trans ih.2⟩
/-- The model's product. -/
def timesM (q a b : Int) : Int := if plN q = 1 then a * b % pr q else
  frm (pr q) ((routTo (pr q) (plN q) (mdl q) (outTo (pr q) (digs (plN q) (pr q) b) (digs (plN q) (pr q) a) (List.replicate (2 * plN q - 1) 0) (plN q)) (plN q - 1)).take (plN q))
theorem times_model (q a b : Int) (hq : isSz q = true) (a0 : 0 ≤ a) (a1 : a < q) (b0 : 0 ≤ b) (b1 : b < q) : timesM q a b = mulF q a b :=
  of_decide_eq_true (of_chk2 (f := fun q a b => decide (timesM q a b = mulF q a b)) (by decide +kernel) q a b hq a0 a1 b0 b1)

theorem mdl_len (q : Int) (h : isSz q = true) : (mdl q).length = plN q ∧ AllIn (pr q) (mdl q) := by
  rcases sz_split q h with rfl | rfl | rfl | rfl | rfl | rfl | rfl | rfl | rfl | rfl <;> exact ⟨by decide, fun d hd => by simp [mdl] at hd; (try simp [pr]); omega⟩

/-! ### powers -/
def pw (q a : Int) : Nat → Int
  | 0 => 1
  | n + 1 => mulF q (pw q a n) a
theorem pw_bd (q a : Int) (hq : isSz q = true) (a0 : 0 ≤ a) (a1 : a < q) (n : Nat) : 0 ≤ pw q a n ∧ pw q a n < q := by
  have := isSz_le q hq
  induction n with
  | zero => exact ⟨by simp [pw], by simp only [pw]; omega⟩
  | succ n ih => exact mulF_bd q _ a hq ih.1 ih.2 a0 a1
theorem mulF_one (q a : Int) (hq : isSz q = true) (a0 : 0 ≤ a) (a1 : a < q) : mulF q 1 a = a ∧ mulF q a 1 = a ∧ mulF q 0 a = 0 ∧ mulF q a 0 = 0 :=
  of_decide_eq_true (of_chk1 (f := fun q a => decide (mulF q 1 a = a ∧ mulF q a 1 = a ∧ mulF q 0 a = 0 ∧ mulF q a 0 = 0)) (by decide +kernel) q a hq a0 a1)
theorem mulF_comm (q a b : Int) (hq : isSz q = true) (a0 : 0 ≤ a) (a1 : a < q) (b0 : 0 ≤ b) (b1 : b < q) : mulF q a b = mulF q b a :=
  of_decide_eq_true (of_chk2 (f := fun q a b => decide (mulF q a b = mulF q b a)) (by decide +kernel) q a b hq a0 a1 b0 b1)
theorem pw_add (q a : Int) (hq : isSz q = true) (a0 : 0 ≤ a) (a1 : a < q) (m n : Nat) : mulF q (pw q a m) (pw q a n) = pw q a (m + n) := by
  induction n with
  | zero => have h := pw_bd q a hq a0 a1 m; exact (mulF_one q _ hq h.1 h.2).2.1
  | succ n ih =>
    have h1 := pw_bd q a hq a0 a1 m
    have h2 := pw_bd q a hq a0 a1 n
    show mulF q (pw q a m) (mulF q (pw q a n) a) = mulF q (pw q a (m + n)) a
    rw [← ih, mulF_assoc q _ _ a hq h1.1 h1.2 h2.1 h2.2 a0 a1]
theorem pw_pw (q a : Int) (hq : isSz q = true) (a0 : 0 ≤ a) (a1 : a < q) (m n : Nat) : pw q (pw q a m) n = pw q a (m * n) := by
  induction n with
  | zero => rfl
  | succ n ih =>
    show mulF q (pw q (pw q a m) n) (pw q a m) = _
    rw [ih, pw_add q a hq a0 a1, Nat.mul_succ]
/-- The order of an element other than 0. -/
def ordN (q a : Int) : Nat := ((List.range 16).findIdx fun n => pw q a (n + 1) == 1) + 1
theorem ordN_spec (q a : Int) (hq : isSz q = true) (a0 : 0 < a) (a1 : a < q) : pw q a (ordN q a) = 1 ∧ 1 ≤ ordN q a ∧ (ordN q a : Int) < q := by
  have h := of_chk1 (f := fun q a => a == 0 || decide (pw q a (ordN q a) = 1 ∧ 1 ≤ ordN q a ∧ (ordN q a : Int) < q)) (by decide +kernel) q a hq (by omega) a1
  simp only [Bool.or_eq_true, beq_iff_eq, decide_eq_true_eq] at h
  rcases h with h | h
  · omega
  · exact h
theorem ordN_least (q a : Int) (hq : isSz q = true) (a0 : 0 < a) (a1 : a < q) (n : Nat) (h1 : 1 ≤ n) (h2 : n < ordN q a) : pw q a n ≠ 1 := by
  have h := of_chk1 (f := fun q a => a == 0 || ((List.range (ordN q a)).all fun n => n == 0 || pw q a n != 1)) (by decide +kernel) q a hq (by omega) a1
  simp only [Bool.or_eq_true, beq_iff_eq, List.all_eq_true, List.mem_range, bne_iff_ne] at h
  rcases h with h | h
  · omega
  · rcases h n h2 with h | h
    · omega
    · exact h
def invF (q a : Int) : Int := pw q a (q - 2).toNat
theorem dg_bd (q a : Int) (i : Nat) (h : isSz q = true) : 0 ≤ dg q a i ∧ dg q a i < pr q := by
  have hp := pr_bd q h
  exact (digs_in (plN q) (pr q) a (by omega)).getD (by omega) i
theorem add_dg (q a b : Int) (hq : isSz q = true) (a0 : 0 ≤ a) (a1 : a < q) (b0 : 0 ≤ b) (b1 : b < q) :
    (dg q a 0 + dg q b 0) % pr q = dg q (addF q a b) 0 ∧ (if plN q < 2 then dg q a 1 else (dg q a 1 + dg q b 1) % pr q) = dg q (addF q a b) 1 ∧
    (if plN q < 3 then dg q a 2 else (dg q a 2 + dg q b 2) % pr q) = dg q (addF q a b) 2 ∧ (if plN q < 4 then dg q a 3 else (dg q a 3 + dg q b 3) % pr q) = dg q (addF q a b) 3 :=
  of_decide_eq_true (of_chk2 (f := fun q a b => decide ((dg q a 0 + dg q b 0) % pr q = dg q (addF q a b) 0 ∧ (if plN q < 2 then dg q a 1 else (dg q a 1 + dg q b 1) % pr q) = dg q (addF q a b) 1 ∧
    (if plN q < 3 then dg q a 2 else (dg q a 2 + dg q b 2) % pr q) = dg q (addF q a b) 2 ∧ (if plN q < 4 then dg q a 3 else (dg q a 3 + dg q b 3) % pr q) = dg q (addF q a b) 3)) (by decide +kernel) q a b hq a0 a1 b0 b1)
theorem neg_dg (q a : Int) (hq : isSz q = true) (a0 : 0 ≤ a) (a1 : a < q) :
    (pr q - dg q a 0) % pr q = dg q (subF q 0 a) 0 ∧ (if plN q < 2 then dg q a 1 else (pr q - dg q a 1) % pr q) = dg q (subF q 0 a) 1 ∧
    (if plN q < 3 then dg q a 2 else (pr q - dg q a 2) % pr q) = dg q (subF q 0 a) 2 ∧ (if plN q < 4 then dg q a 3 else (pr q - dg q a 3) % pr q) = dg q (subF q 0 a) 3 :=
  of_decide_eq_true (of_chk1 (f := fun q a => decide ((pr q - dg q a 0) % pr q = dg q (subF q 0 a) 0 ∧ (if plN q < 2 then dg q a 1 else (pr q - dg q a 1) % pr q) = dg q (subF q 0 a) 1 ∧
    (if plN q < 3 then dg q a 2 else (pr q - dg q a 2) % pr q) = dg q (subF q 0 a) 2 ∧ (if plN q < 4 then dg q a 3 else (pr q - dg q a 3) % pr q) = dg q (subF q 0 a) 3)) (by decide +kernel) q a hq a0 a1)
theorem add_neg (q a b : Int) (hq : isSz q = true) (a0 : 0 ≤ a) (a1 : a < q) (b0 : 0 ≤ b) (b1 : b < q) : addF q a (subF q 0 b) = subF q a b :=
  of_decide_eq_true (of_chk2 (f := fun q a b => decide (addF q a (subF q 0 b) = subF q a b)) (by decide +kernel) q a b hq a0 a1 b0 b1)
/-- c times an element, c a digit of another one. -/
theorem scl_dg (q a c : Int) (hq : isSz q = true) (a0 : 0 ≤ a) (a1 : a < q) (c0 : 0 ≤ c) (c1 : c < pr q) :
    c * dg q a 0 % pr q = dg q (mulF q c a) 0 ∧ (if plN q < 2 then dg q a 1 else c * dg q a 1 % pr q) = dg q (mulF q c a) 1 ∧
    (if plN q < 3 then dg q a 2 else c * dg q a 2 % pr q) = dg q (mulF q c a) 2 ∧ (if plN q < 4 then dg q a 3 else c * dg q a 3 % pr q) = dg q (mulF q c a) 3 := by
  have hc : c < q := by
    rcases sz_split q hq with rfl | rfl | rfl | rfl | rfl | rfl | rfl | rfl | rfl | rfl <;> (simp [pr] at c1; omega)
  have h := of_chk2 (f := fun q c a => decide (pr q ≤ c) || decide (c * dg q a 0 % pr q = dg q (mulF q c a) 0 ∧ (if plN q < 2 then dg q a 1 else c * dg q a 1 % pr q) = dg q (mulF q c a) 1 ∧
    (if plN q < 3 then dg q a 2 else c * dg q a 2 % pr q) = dg q (mulF q c a) 2 ∧ (if plN q < 4 then dg q a 3 else c * dg q a 3 % pr q) = dg q (mulF q c a) 3)) (by decide +kernel) q c a hq c0 hc a0 a1
  simp only [Bool.or_eq_true, decide_eq_true_eq] at h
  rcases h with h | h
  · omega
  · exact h
theorem scl_lt (q c : Int) (hq : isSz q = true) (c1 : c < pr q) : c < q := by
  rcases sz_split q hq with rfl | rfl | rfl | rfl | rfl | rfl | rfl | rfl | rfl | rfl <;> (simp [pr] at c1; omega)
/-- x times an element. -/
def tXF (q a : Int) : Int := if plN q = 1 then 0 else mulF q (pr q) a
theorem tXF_bd (q a : Int) (hq : isSz q = true) (a0 : 0 ≤ a) (a1 : a < q) : 0 ≤ tXF q a ∧ tXF q a < q :=
  of_decide_eq_true (of_chk1 (f := fun q a => decide (0 ≤ tXF q a ∧ tXF q a < q)) (by decide +kernel) q a hq a0 a1)
/-- The product after n rounds. -/
def tmTo (q a b : Int) : Nat → Int
  | 0 => 0
  | n + 1 => addF q (tXF q (tmTo q a b n)) (mulF q (dg q a (plN q - 1 - n)) b)
theorem tmTo_bd (q a b : Int) (hq : isSz q = true) (b0 : 0 ≤ b) (b1 : b < q) (n : Nat) : 0 ≤ tmTo q a b n ∧ tmTo q a b n < q := by
  have := isSz_le q hq
  induction n with
  | zero => simp only [tmTo]; omega
  | succ n ih =>
    have h1 := tXF_bd q _ hq ih.1 ih.2
    have hd := dg_bd q a (plN q - 1 - n) hq
    have h2 := mulF_bd q _ b hq hd.1 (scl_lt q _ hq hd.2) b0 b1
    exact addF_bd q _ _ hq h1.1 h1.2 h2.1 h2.2
theorem tm_model (q a b : Int) (hq : isSz q = true) (a0 : 0 ≤ a) (a1 : a < q) (b0 : 0 ≤ b) (b1 : b < q) : tmTo q a b (plN q) = mulF q a b :=
  of_decide_eq_true (of_chk2 (f := fun q a b => decide (tmTo q a b (plN q) = mulF q a b)) (by decide +kernel) q a b hq a0 a1 b0 b1)
/-- Elements are told by their digits. -/
theorem dg_inj (q a b : Int) (hq : isSz q = true) (a0 : 0 ≤ a) (a1 : a < q) (b0 : 0 ≤ b) (b1 : b < q) :
    (decide (dg q a 0 = dg q b 0) && (decide (dg q a 1 = dg q b 1) && (decide (dg q a 2 = dg q b 2) && decide (dg q a 3 = dg q b 3)))) = decide (a = b) :=
  of_decide_eq_true (of_chk2 (f := fun q a b => decide ((decide (dg q a 0 = dg q b 0) && (decide (dg q a 1 = dg q b 1) && (decide (dg q a 2 = dg q b 2) && decide (dg q a 3 = dg q b 3)))) = decide (a = b))) (by decide +kernel) q a b hq a0 a1 b0 b1)
/-- x is an element. -/
def El (q x : Int) : Prop := 0 ≤ x ∧ x < q
theorem El.add {q a b : Int} (h : isSz q = true) (ha : El q a) (hb : El q b) : El q (addF q a b) := addF_bd q a b h ha.1 ha.2 hb.1 hb.2
theorem El.mul {q a b : Int} (h : isSz q = true) (ha : El q a) (hb : El q b) : El q (mulF q a b) := mulF_bd q a b h ha.1 ha.2 hb.1 hb.2
theorem El.zero {q : Int} (h : isSz q = true) : El q 0 := by have := isSz_le q h; exact ⟨by omega, by omega⟩
theorem El.one {q : Int} (h : isSz q = true) : El q 1 := by have := isSz_le q h; exact ⟨by omega, by omega⟩
theorem El.pw {q a : Int} (h : isSz q = true) (ha : El q a) (n : Nat) : El q (pw q a n) := pw_bd q a h ha.1 ha.2 n
theorem add_comm' {q a b : Int} (h : isSz q = true) (ha : El q a) (hb : El q b) : addF q a b = addF q b a :=
  of_decide_eq_true (of_chk2 (f := fun q a b => decide (addF q a b = addF q b a)) (by decide +kernel) q a b h ha.1 ha.2 hb.1 hb.2)
theorem add_assoc' {q a b c : Int} (h : isSz q = true) (ha : El q a) (hb : El q b) (hc : El q c) : addF q (addF q a b) c = addF q a (addF q b c) :=
  of_decide_eq_true (of_chk3 (f := fun q a b c => decide (addF q (addF q a b) c = addF q a (addF q b c))) (by decide +kernel) q a b c h ha.1 ha.2 hb.1 hb.2 hc.1 hc.2)
theorem add_zero' {q a : Int} (h : isSz q = true) (ha : El q a) : addF q a 0 = a ∧ addF q 0 a = a :=
  of_decide_eq_true (of_chk1 (f := fun q a => decide (addF q a 0 = a ∧ addF q 0 a = a)) (by decide +kernel) q a h ha.1 ha.2)
theorem mul_add' {q a b c : Int} (h : isSz q = true) (ha : El q a) (hb : El q b) (hc : El q c) : mulF q a (addF q b c) = addF q (mulF q a b) (mulF q a c) :=
  of_decide_eq_true (of_chk3 (f := fun q a b c => decide (mulF q a (addF q b c) = addF q (mulF q a b) (mulF q a c))) (by decide +kernel) q a b c h ha.1 ha.2 hb.1 hb.2 hc.1 hc.2)
theorem mul_comm' {q a b : Int} (h : isSz q = true) (ha : El q a) (hb : El q b) : mulF q a b = mulF q b a := mulF_comm q a b h ha.1 ha.2 hb.1 hb.2
theorem add_swap {q a b c : Int} (h : isSz q = true) (ha : El q a) (hb : El q b) (hc : El q c) : addF q (addF q a b) c = addF q (addF q a c) b := by
  rw [add_assoc' h ha hb hc, add_comm' h hb hc, ← add_assoc' h ha hc hb]

/-! ### lists told by functions -/
/-- The list of f 0, .., f (n - 1). -/
def fl (f : Nat → Int) (n : Nat) : List Int := (List.range n).map f
theorem fl_len (f : Nat → Int) (n : Nat) : (fl f n).length = n := by simp [fl]
theorem fl_succ (f : Nat → Int) (n : Nat) : fl f (n + 1) = fl f n ++ [f n] := by simp [fl, List.range_succ]
theorem fl_get (f : Nat → Int) (n i : Nat) (h : i < n) : (fl f n).getD i 0 = f i := by simp [fl, List.getD, h]
theorem fl_congr {f g : Nat → Int} {n : Nat} (h : ∀ i, i < n → f i = g i) : fl f n = fl g n := by
  refine List.map_congr_left fun i hi => h i (List.mem_range.1 hi)
/-- f, but x at i. -/
def upd (f : Nat → Int) (i : Nat) (x : Int) : Nat → Int := fun j => if j = i then x else f j
theorem upd_at (f : Nat → Int) (i : Nat) (x : Int) : upd f i x i = x := by simp [upd]
theorem upd_ne (f : Nat → Int) (i j : Nat) (x : Int) (h : j ≠ i) : upd f i x j = f j := by simp [upd, h]
theorem fl_set (f : Nat → Int) (n i : Nat) (x : Int) : (fl f n).set i x = fl (upd f i x) n := by
  refine List.ext_getElem (by simp [fl]) fun j h1 h2 => ?_
  simp [fl, List.getElem_set, upd, eq_comm]
theorem fl_take (f : Nat → Int) (n m : Nat) (h : m ≤ n) : (fl f n).take m = fl f m := by
  simp [fl, ← List.map_take, List.take_range, Nat.min_eq_left h]
/-- Every list is told so. -/
theorem fl_of (l : List Int) : l = fl (fun i => l.getD i 0) l.length := by
  refine List.ext_getElem (by simp [fl]) fun j h1 h2 => ?_
  simp [fl, List.getD, h1]

/-! ### trailing zeros -/
/-- How many stay of n entries when zeros at the end go. -/
def sn (f : Nat → Int) : Nat → Nat
  | 0 => 0
  | n + 1 => if f n = 0 then sn f n else n + 1
theorem sn_le (f : Nat → Int) (n : Nat) : sn f n ≤ n := by
  induction n with
  | zero => exact Nat.le_refl _
  | succ n ih => simp only [sn]; split <;> omega
theorem sn_congr {f g : Nat → Int} {n : Nat} (h : ∀ i, i < n → f i = g i) : sn f n = sn g n := by
  induction n with
  | zero => rfl
  | succ n ih =>
    simp only [sn]
    rw [h n (Nat.lt_succ_self n), ih fun i hi => h i (by omega)]
theorem sn_zero (f : Nat → Int) (m d : Nat) (h : ∀ i, m ≤ i → i < m + d → f i = 0) : sn f (m + d) = sn f m := by
  induction d with
  | zero => rfl
  | succ d ih =>
    show sn f (m + d + 1) = _
    simp only [sn]
    rw [if_pos (h (m + d) (by omega) (by omega)), ih fun i h1 h2 => h i h1 (by omega)]

/-! ### reduction -/
/-- Where the power k lands. -/
def idx (q k : Nat) : Nat := if k = 0 then 0 else (k - 1) % (q - 1) + 1
theorem idx_lt (q k : Nat) (h : 2 ≤ q) : idx q k < q := by
  unfold idx
  split
  · omega
  · have := Nat.mod_lt (k - 1) (show 0 < q - 1 by omega)
    omega
theorem idx_small (q k : Nat) (h : k < q) : idx q k = k := by
  unfold idx
  split
  · omega
  · rw [Nat.mod_eq_of_lt (by omega)]; omega
theorem idx_step (q k : Nat) (h2 : 2 ≤ q) (h : q ≤ k) : idx q (k - (q - 1)) = idx q k := by
  unfold idx
  rw [if_neg (by omega), if_neg (by omega), show k - (q - 1) - 1 = k - 1 - (q - 1) from by omega, ← Nat.mod_eq_sub_mod (by omega)]
/-- The model's way: the first n terms, each added where it lands. -/
def redR (q : Nat) (c : Nat → Int) : Nat → Nat → Int
  | 0 => fun _ => 0
  | n + 1 => upd (redR q c n) (idx q n) (addF q (redR q c n (idx q n)) (c n))
theorem redR_el (q : Nat) (c : Nat → Int) (h : isSz q = true) (hc : ∀ i, El q (c i)) (n j : Nat) : El q (redR q c n j) := by
  induction n generalizing j with
  | zero => exact El.zero h
  | succ n ih =>
    simp only [redR, upd]
    split
    · exact (ih _).add h (hc n)
    · exact ih j
theorem redR_add (q : Nat) (c : Nat → Int) (h : isSz q = true) (hc : ∀ i, El q (c i)) (i : Nat) (x : Int) (hx : El q x) (n j : Nat) :
    redR q (upd c i (addF q (c i) x)) n j = if i < n ∧ j = idx q i then addF q (redR q c n j) x else redR q c n j := by
  induction n generalizing j with
  | zero => simp [redR]
  | succ n ih =>
    simp only [redR]
    by_cases e : n = i
    · subst e
      have ih' : ∀ j, redR q (upd c n (addF q (c n) x)) n j = redR q c n j := fun j => by rw [ih j, if_neg (by omega)]
      by_cases ej : j = idx q n
      · subst ej
        rw [upd_at, upd_at, upd_at, if_pos ⟨by omega, rfl⟩, ih', add_assoc' h (redR_el q c h hc _ _) (hc n) hx]
      · rw [upd_ne _ _ _ _ ej, upd_ne _ _ _ _ ej, if_neg (by omega), ih']
    · rw [upd_ne c i n _ e]
      by_cases ej : j = idx q n
      · subst ej
        rw [upd_at, upd_at, ih]
        by_cases hi : i < n ∧ idx q n = idx q i
        · rw [if_pos hi, if_pos ⟨by omega, hi.2⟩, add_swap h (redR_el q c h hc _ _) hx (hc n)]
        · rw [if_neg hi, if_neg (by omega)]
      · rw [upd_ne _ _ _ _ ej, upd_ne _ _ _ _ ej, ih]
        by_cases hi : i < n ∧ j = idx q i
        · rw [if_pos hi, if_pos ⟨by omega, hi.2⟩]
        · rw [if_neg hi, if_neg (by omega)]
/-- The program's way: from above, each term to the one q - 1 places below. -/
def redT (q : Nat) (c : Nat → Int) (n : Nat) : Nat → Nat → Int
  | 0 => c
  | s + 1 => upd (redT q c n s) (n - 1 - s - q + 1) (addF q (redT q c n s (n - 1 - s - q + 1)) (redT q c n s (n - 1 - s)))
theorem redT_el (q : Nat) (c : Nat → Int) (h : isSz q = true) (hc : ∀ i, El q (c i)) (n s j : Nat) : El q (redT q c n s j) := by
  induction s generalizing j with
  | zero => exact hc j
  | succ s ih =>
    simp only [redT, upd]
    split
    · exact (ih _).add h (ih _)
    · exact ih j
theorem red_same (q : Nat) (c : Nat → Int) (h : isSz q = true) (hc : ∀ i, El q (c i)) (n s : Nat) (hs : s + q ≤ n ∨ s = 0) (j : Nat) : redR q (redT q c n s) (n - s) j = redR q c n j := by
  have hq := isSz_le q h
  induction s generalizing j with
  | zero => rfl
  | succ s ih =>
    rw [← ih (by omega) j]
    have hn : n - s = (n - 1 - s) + 1 := by omega
    have hl : n - (s + 1) = n - 1 - s := by omega
    rw [hn, hl]
    simp only [redT]
    generalize hk : n - 1 - s = k at *
    have hkq : q ≤ k := by omega
    rw [redR_add q _ h (redT_el q c h hc n s) _ _ (redT_el q c h hc n s k)]
    have he : idx q (k - q + 1) = idx q k := by rw [← idx_step q k (by omega) hkq]; congr 1; omega
    rw [he]
    simp only [redR]
    by_cases ej : j = idx q k
    · subst ej
      rw [if_pos ⟨by omega, rfl⟩, upd_at]
    · rw [if_neg (by omega), upd_ne _ _ _ _ ej]
theorem redR_small (q : Nat) (c : Nat → Int) (h : isSz q = true) (hc : ∀ i, El q (c i)) (n : Nat) (hn : n ≤ q) (j : Nat) : redR q c n j = if j < n then c j else 0 := by
  induction n generalizing j with
  | zero => rfl
  | succ n ih =>
    have ih := fun j => ih (by omega) j
    simp only [redR]
    rw [idx_small q n (by omega)]
    by_cases ej : j = n
    · subst ej
      rw [upd_at, ih, if_neg (by omega), if_pos (by omega), (add_zero' h (hc j)).2]
    · rw [upd_ne _ _ _ _ ej, ih]
      by_cases hj : j < n
      · rw [if_pos hj, if_pos (by omega)]
      · rw [if_neg hj, if_neg (by omega)]
/-- The reduced polynomial of n terms. -/
def redn (q : Nat) (c : Nat → Int) (n : Nat) : Nat := sn (redR q c n) q
/-- What the program leaves in the first places is the model's. -/
theorem redT_last (q : Nat) (c : Nat → Int) (h : isSz q = true) (hc : ∀ i, El q (c i)) (n : Nat) :
    (∀ j, j < min n q → redT q c n (n - q) j = redR q c n j) ∧ sn (redT q c n (n - q)) (min n q) = redn q c n := by
  have h1 : ∀ j, j < min n q → redT q c n (n - q) j = redR q c n j := by
    intro j hj
    rw [← red_same q c h hc n (n - q) (by omega) j, redR_small q _ h (redT_el q c h hc n _) _ (by omega), if_pos (by omega)]
  refine ⟨h1, ?_⟩
  rw [sn_congr h1, redn]
  by_cases hq : q ≤ n
  · rw [Nat.min_eq_right hq]
  · have e : q = n + (q - n) := by omega
    rw [Nat.min_eq_left (by omega)]
    conv => rhs; rw [e]
    have hz := sn_zero (redR q c n) n (q - n) fun i h1 h2 => by rw [redR_small q c h hc n (by omega), if_neg (by omega)]
    rw [← e] at hz ⊢
    exact hz.symm
theorem mul_zero' {q a : Int} (h : isSz q = true) (ha : El q a) : mulF q 0 a = 0 ∧ mulF q a 0 = 0 := ⟨(mulF_one q a h ha.1 ha.2).2.2.1, (mulF_one q a h ha.1 ha.2).2.2.2⟩
theorem redR_congr {q : Nat} {c d : Nat → Int} {n : Nat} (hcd : ∀ i, i < n → c i = d i) : redR q c n = redR q d n := by
  induction n with
  | zero => rfl
  | succ n ih => simp only [redR]; rw [ih fun i hi => hcd i (by omega), hcd n (Nat.lt_succ_self n)]
theorem redR_tail {q : Nat} {c : Nat → Int} {n : Nat} (h : isSz (q : Int) = true) (hc : ∀ i, El q (c i)) (h0 : c n = 0) : redR q c (n + 1) = redR q c n := by
  funext j
  simp only [redR]
  by_cases e : j = idx q n
  · subst e
    rw [upd_at, h0, (add_zero' h (redR_el q c h hc n _)).1]
  · rw [upd_ne _ _ _ _ e]
theorem redR_none {q : Nat} (h : isSz (q : Int) = true) (n : Nat) : redR q (fun _ => 0) n = fun _ => 0 := by
  induction n with
  | zero => rfl
  | succ n ih => rw [redR_tail h (fun _ => El.zero h) rfl, ih]
theorem redR_far {q : Nat} {c : Nat → Int} (h : isSz (q : Int) = true) (n j : Nat) (hj : q ≤ j) : redR q c n j = 0 := by
  have hq := isSz_le q h
  induction n with
  | zero => rfl
  | succ n ih =>
    simp only [redR]
    have := idx_lt q n (by omega)
    rw [upd_ne _ _ _ _ (by omega), ih]
theorem sn_past {f : Nat → Int} {n i : Nat} (h1 : sn f n ≤ i) (h2 : i < n) : f i = 0 := by
  induction n with
  | zero => omega
  | succ n ih =>
    simp only [sn] at h1
    by_cases e : f n = 0
    · rw [if_pos e] at h1
      by_cases hi : i = n
      · rw [hi, e]
      · exact ih h1 (by omega)
    · rw [if_neg e] at h1
      omega
theorem redR_past {q : Nat} {c : Nat → Int} (h : isSz (q : Int) = true) (n j : Nat) (hj : redn q c n ≤ j) : redR q c n j = 0 := by
  by_cases hq : q ≤ j
  · exact redR_far h n j hq
  · exact sn_past hj (by omega)
/-- A row of a product: the first terms of f i times g, added from the place i on. -/
def cin (q : Int) (f g : Nat → Int) (i : Nat) (c : Nat → Int) : Nat → Nat → Int
  | 0 => c
  | j + 1 => upd (cin q f g i c j) (i + j) (addF q (cin q f g i c j (i + j)) (mulF q (f i) (g j)))
/-- The first rows of a product of f and the first k terms of g. -/
def cou (q : Int) (f g : Nat → Int) (k : Nat) : Nat → Nat → Int
  | 0 => fun _ => 0
  | i + 1 => cin q f g i (cou q f g k i) k
theorem cin_el {q : Int} {f g c : Nat → Int} (h : isSz q = true) (hf : ∀ i, El q (f i)) (hg : ∀ i, El q (g i)) (hc : ∀ i, El q (c i)) (i k j : Nat) : El q (cin q f g i c k j) := by
  induction k generalizing j with
  | zero => exact hc j
  | succ k ih =>
    simp only [cin, upd]
    split
    · exact (ih _).add h ((hf i).mul h (hg k))
    · exact ih j
theorem cou_el {q : Int} {f g : Nat → Int} (h : isSz q = true) (hf : ∀ i, El q (f i)) (hg : ∀ i, El q (g i)) (k n j : Nat) : El q (cou q f g k n j) := by
  induction n generalizing j with
  | zero => exact El.zero h
  | succ n ih => exact cin_el h hf hg (fun i => ih i) n k j
theorem cou_none (q : Int) (f g : Nat → Int) (n : Nat) : cou q f g 0 n = fun _ => 0 := by
  induction n with
  | zero => rfl
  | succ n ih => exact ih
theorem cou_one {q a : Int} {f : Nat → Int} (h : isSz q = true) (hf : ∀ i, El q (f i)) (ha : El q a) (n j : Nat) : cou q f (fun _ => a) 1 n j = if j < n then mulF q (f j) a else 0 := by
  induction n generalizing j with
  | zero => rfl
  | succ n ih =>
    show upd (cou q f (fun _ => a) 1 n) (n + 0) (addF q (cou q f (fun _ => a) 1 n (n + 0)) (mulF q (f n) a)) j = _
    rw [Nat.add_zero]
    by_cases e : j = n
    · subst e
      rw [upd_at, ih, if_neg (Nat.lt_irrefl _), if_pos (Nat.lt_succ_self _), (add_zero' h ((hf _).mul h ha)).2]
    · rw [upd_ne _ _ _ _ e, ih]
      by_cases hj : j < n
      · rw [if_pos hj, if_pos (by omega)]
      · rw [if_neg hj, if_neg (by omega)]
/-- The product with a constant is the multiple. -/
theorem scale_same {m : Nat} {a : Int} {f : Nat → Int} (h : isSz (m : Int) = true) (hf : ∀ i, El m (f i)) (ha : El m a) (n : Nat) :
    redR m (cou m f (fun _ => a) (sn (fun _ => a) 1) n) (n + sn (fun _ => a) 1) = redR m (fun i => mulF m a (f i)) n := by
  by_cases h0 : a = 0
  · subst h0
    have e : sn (fun _ => (0 : Int)) 1 = 0 := rfl
    rw [e, cou_none, Nat.add_zero, show (fun i => mulF m 0 (f i)) = fun _ => 0 from funext fun i => (mul_zero' h (hf i)).1]
  · have e : sn (fun _ => a) 1 = 1 := by simp [sn, h0]
    rw [e, redR_tail h (cou_el h hf (fun _ => ha) 1 n) (by rw [cou_one h hf ha, if_neg (Nat.lt_irrefl _)])]
    refine redR_congr fun i hi => ?_
    rw [cou_one h hf ha, if_pos hi, mul_comm' h (hf i) ha]
/-- A sum, place by place. -/
def pls (q : Int) (f g : Nat → Int) : Nat → Int := fun i => addF q (f i) (g i)
/-- The model's sum after i places of g. -/
def plI (q : Int) (f g : Nat → Int) (i : Nat) : Nat → Int := fun j => if j < i then addF q (f j) (g j) else f j
theorem plI_step (q : Int) (f g : Nat → Int) (i : Nat) : plI q f g (i + 1) = upd (plI q f g i) i (addF q (plI q f g i i) (g i)) := by
  funext j
  by_cases e : j = i
  · subst e
    rw [upd_at]
    simp [plI]
  · rw [upd_ne _ _ _ _ e]
    unfold plI
    by_cases hj : j < i
    · rw [if_pos hj, if_pos (by omega)]
    · rw [if_neg hj, if_neg (by omega)]
theorem plI_all {q : Int} {f g : Nat → Int} (h : isSz q = true) (hf : ∀ i, El q (f i)) (k : Nat) (hg : ∀ i, k ≤ i → g i = 0) : plI q f g k = pls q f g := by
  funext j
  unfold plI pls
  by_cases hj : j < k
  · rw [if_pos hj]
  · rw [if_neg hj, hg j (by omega), (add_zero' h (hf j)).1]
theorem pls_el {q : Int} {f g : Nat → Int} (h : isSz q = true) (hf : ∀ i, El q (f i)) (hg : ∀ i, El q (g i)) (i : Nat) : El q (pls q f g i) := (hf i).add h (hg i)
theorem pls_past {q : Int} {f g : Nat → Int} (h : isSz q = true) {n k i : Nat} (hf : ∀ i, n ≤ i → f i = 0) (hg : ∀ i, k ≤ i → g i = 0) (hi : max n k ≤ i) : pls q f g i = 0 := by
  unfold pls
  rw [hf i (by omega), hg i (by omega), (add_zero' h (El.zero h)).1]
/-- The program's sum of q places, reduced, is the model's. -/
theorem plus_same {m : Nat} {f g : Nat → Int} (h : isSz (m : Int) = true) (hf : ∀ i, El m (f i)) (hg : ∀ i, El m (g i)) {n k : Nat} (hn : n ≤ m) (hk : k ≤ m) (zf : ∀ i, n ≤ i → f i = 0) (zg : ∀ i, k ≤ i → g i = 0) :
    fl (redR m (pls m f g) m) (redn m (pls m f g) m) = fl (pls m f g) (sn (pls m f g) (max n k)) := by
  have hs : ∀ j, j < m → redR m (pls m f g) m j = pls m f g j := fun j hj => by
    rw [redR_small m _ h (pls_el h hf hg) m (Nat.le_refl _), if_pos hj]
  have e : redn m (pls m f g) m = sn (pls m f g) (max n k) := by
    unfold redn
    rw [sn_congr hs]
    have := sn_zero (pls m f g) (max n k) (m - max n k) fun i h1 _ => pls_past h zf zg h1
    rwa [show max n k + (m - max n k) = m by omega] at this
  rw [e]
  refine fl_congr fun i hi => hs i ?_
  have := sn_le (pls m f g) (max n k)
  omega
theorem mul_assoc' {q a b c : Int} (h : isSz q = true) (ha : El q a) (hb : El q b) (hc : El q c) : mulF q (mulF q a b) c = mulF q a (mulF q b c) := mulF_assoc q a b c h ha.1 ha.2 hb.1 hb.2 hc.1 hc.2
theorem mul_one' {q a : Int} (h : isSz q = true) (ha : El q a) : mulF q 1 a = a ∧ mulF q a 1 = a := ⟨(mulF_one q a h ha.1 ha.2).1, (mulF_one q a h ha.1 ha.2).2.1⟩
theorem El.neg {q a : Int} (h : isSz q = true) (ha : El q a) : El q (subF q 0 a) := subF_bd q 0 a h (Int.le_refl _) (El.zero h).2 ha.1 ha.2
theorem neg_add' {q a b : Int} (h : isSz q = true) (ha : El q a) (hb : El q b) : subF q 0 (addF q a b) = addF q (subF q 0 a) (subF q 0 b) :=
  of_decide_eq_true (of_chk2 (f := fun q a b => decide (subF q 0 (addF q a b) = addF q (subF q 0 a) (subF q 0 b))) (by decide +kernel) q a b h ha.1 ha.2 hb.1 hb.2)
theorem neg_mul' {q a b : Int} (h : isSz q = true) (ha : El q a) (hb : El q b) : mulF q a (subF q 0 b) = subF q 0 (mulF q a b) :=
  of_decide_eq_true (of_chk2 (f := fun q a b => decide (mulF q a (subF q 0 b) = subF q 0 (mulF q a b))) (by decide +kernel) q a b h ha.1 ha.2 hb.1 hb.2)
theorem neg_zero' {q : Int} (h : isSz q = true) : subF q 0 0 = 0 :=
  of_decide_eq_true (of_chk1 (f := fun q _ => decide (subF q 0 0 = 0)) (by decide +kernel) q 0 h (Int.le_refl _) (El.zero h).2)
/-- u 0 + .. + u (n - 1). -/
def lsum (q : Int) (u : Nat → Int) : Nat → Int
  | 0 => 0
  | n + 1 => addF q (lsum q u n) (u n)
theorem lsum_el {q : Int} {u : Nat → Int} (h : isSz q = true) {n : Nat} (hu : ∀ i, i < n → El q (u i)) : El q (lsum q u n) := by
  induction n with
  | zero => exact El.zero h
  | succ n ih => exact (ih fun i hi => hu i (by omega)).add h (hu n (by omega))
theorem lsum_congr {q : Int} {u v : Nat → Int} {n : Nat} (h : ∀ i, i < n → u i = v i) : lsum q u n = lsum q v n := by
  induction n with
  | zero => rfl
  | succ n ih => simp only [lsum]; rw [ih fun i hi => h i (by omega), h n (Nat.lt_succ_self n)]
theorem lsum_add {q : Int} {u v : Nat → Int} (h : isSz q = true) {n : Nat} (hu : ∀ i, i < n → El q (u i)) (hv : ∀ i, i < n → El q (v i)) : lsum q (fun i => addF q (u i) (v i)) n = addF q (lsum q u n) (lsum q v n) := by
  induction n with
  | zero => exact (add_zero' h (El.zero h)).1.symm
  | succ n ih =>
    have hu' : ∀ i, i < n → El q (u i) := fun i hi => hu i (by omega)
    have hv' : ∀ i, i < n → El q (v i) := fun i hi => hv i (by omega)
    have U := lsum_el h hu'
    have V := lsum_el h hv'
    have un := hu n (Nat.lt_succ_self n)
    have vn := hv n (Nat.lt_succ_self n)
    simp only [lsum]
    rw [ih hu' hv', ← add_assoc' h (U.add h V) un vn, add_swap h U V un, add_assoc' h (U.add h un) V vn]
theorem lsum_mul {q x : Int} {u : Nat → Int} (h : isSz q = true) (hx : El q x) {n : Nat} (hu : ∀ i, i < n → El q (u i)) : lsum q (fun i => mulF q x (u i)) n = mulF q x (lsum q u n) := by
  induction n with
  | zero => exact (mul_zero' h hx).2.symm
  | succ n ih =>
    have hu' : ∀ i, i < n → El q (u i) := fun i hi => hu i (by omega)
    simp only [lsum]
    rw [ih hu', ← mul_add' h hx (lsum_el h hu') (hu n (Nat.lt_succ_self n))]
theorem lsum_mulr {q x : Int} {u : Nat → Int} (h : isSz q = true) (hx : El q x) {n : Nat} (hu : ∀ i, i < n → El q (u i)) : lsum q (fun i => mulF q (u i) x) n = mulF q (lsum q u n) x := by
  rw [mul_comm' h (lsum_el h hu) hx, ← lsum_mul h hx hu]
  exact lsum_congr fun i hi => mul_comm' h (hu i hi) hx
theorem lsum_neg {q : Int} {u : Nat → Int} (h : isSz q = true) {n : Nat} (hu : ∀ i, i < n → El q (u i)) : lsum q (fun i => subF q 0 (u i)) n = subF q 0 (lsum q u n) := by
  induction n with
  | zero => exact (neg_zero' h).symm
  | succ n ih =>
    have hu' : ∀ i, i < n → El q (u i) := fun i hi => hu i (by omega)
    simp only [lsum]
    rw [ih hu', ← neg_add' h (lsum_el h hu') (hu n (Nat.lt_succ_self n))]
theorem lsum_zero {q : Int} {u : Nat → Int} (h : isSz q = true) {n : Nat} (hu : ∀ i, i < n → u i = 0) : lsum q u n = 0 := by
  induction n with
  | zero => rfl
  | succ n ih => simp only [lsum]; rw [ih fun i hi => hu i (by omega), hu n (Nat.lt_succ_self n), (add_zero' h (El.zero h)).1]
theorem lsum_swap {q : Int} {u : Nat → Nat → Int} (h : isSz q = true) {n m : Nat} (hu : ∀ i k, i < n → k < m → El q (u i k)) : lsum q (fun i => lsum q (fun k => u i k) m) n = lsum q (fun k => lsum q (fun i => u i k) n) m := by
  induction n with
  | zero => exact (lsum_zero h fun _ _ => rfl).symm
  | succ n ih =>
    simp only [lsum]
    rw [ih fun i k hi hk => hu i k (by omega) hk, ← lsum_add h (fun k hk => lsum_el h fun i hi => hu i k (by omega) hk) (fun k hk => hu n k (Nat.lt_succ_self n) hk)]
theorem lsum_front {q : Int} {u : Nat → Int} (h : isSz q = true) {n : Nat} (hu : ∀ i, i < n + 1 → El q (u i)) : lsum q u (n + 1) = addF q (u 0) (lsum q (fun i => u (i + 1)) n) := by
  induction n with
  | zero =>
    show addF q 0 (u 0) = addF q (u 0) 0
    rw [(add_zero' h (hu 0 (by omega))).1, (add_zero' h (hu 0 (by omega))).2]
  | succ n ih =>
    show addF q (lsum q u (n + 1)) (u (n + 1)) = addF q (u 0) (addF q (lsum q (fun i => u (i + 1)) n) (u (n + 1)))
    rw [ih fun i hi => hu i (by omega), add_assoc' h (hu 0 (by omega)) (lsum_el h fun i hi => hu (i + 1) (by omega)) (hu _ (by omega))]
theorem lsum_pick {q : Int} {u : Nat → Int} (h : isSz q = true) {n j : Nat} (hu : El q (u j)) (hj : j < n) (hz : ∀ i, i < n → i ≠ j → u i = 0) : lsum q u n = u j := by
  induction n with
  | zero => omega
  | succ n ih =>
    simp only [lsum]
    by_cases e : j = n
    · subst e
      rw [lsum_zero h fun i hi => hz i (by omega) (by omega), (add_zero' h hu).2]
    · rw [ih (by omega) fun i hi => hz i (by omega), hz n (Nat.lt_succ_self n) (by omega), (add_zero' h hu).1]
/-- The coefficient of x^j in the polynomial that is 1 at a and 0 elsewhere. -/
def cf (q : Int) (a : Int) (j : Nat) : Int := if j = 0 then addF q 1 (subF q 0 (pw q a (q.toNat - 1 - j))) else subF q 0 (pw q a (q.toNat - 1 - j))
theorem cf_el {q a : Int} (h : isSz q = true) (ha : El q a) (j : Nat) : El q (cf q a j) := by
  unfold cf
  split
  · exact (El.one h).add h (El.neg h (El.pw h ha _))
  · exact El.neg h (El.pw h ha _)
theorem cf_sum {q j k : Int} (h : isSz q = true) (hj : El q j) (hk : El q k) : lsum q (fun a => mulF q (pw q (a : Int) k.toNat) (cf q (a : Int) j.toNat)) q.toNat = if k = j then 1 else 0 :=
  of_decide_eq_true (of_chk2 (f := fun q j k => decide (lsum q (fun a => mulF q (pw q (a : Int) k.toNat) (cf q (a : Int) j.toNat)) q.toNat = if k = j then 1 else 0)) (by decide +kernel) q j k h hj.1 hj.2 hk.1 hk.2)
theorem cf_zero {q a : Int} (h : isSz q = true) (ha : El q a) : cf q a 0 = if a = 0 then 1 else 0 :=
  of_decide_eq_true (of_chk1 (f := fun q a => decide (cf q a 0 = if a = 0 then 1 else 0)) (by decide +kernel) q a h ha.1 ha.2)
theorem El.nat {m i : Nat} (h : i < m) : El (m : Int) (i : Int) := ⟨by omega, by omega⟩
/-- The model's interpolation of the first n values. -/
def ipl (m : Nat) (t : Nat → Int) (n j : Nat) : Int := lsum m (fun a => mulF m (t a) (cf m (a : Int) j)) n
theorem ipl_el {m : Nat} {t : Nat → Int} (h : isSz (m : Int) = true) (ht : ∀ i, El m (t i)) (n j : Nat) (hn : n ≤ m) : El m (ipl m t n j) := lsum_el h fun i hi => (ht i).mul h (cf_el h (El.nat (by omega)) j)
/-- The program's products of the values and powers of the elements. -/
def psl (m : Nat) (t : Nat → Int) : Nat → Nat → Int
  | 0 => t
  | s + 1 => fun a => mulF m (psl m t s a) (a : Int)
theorem psl_eq {m : Nat} {t : Nat → Int} (h : isSz (m : Int) = true) (ht : ∀ i, El m (t i)) (s a : Nat) (ha : a < m) : psl m t s a = mulF m (t a) (pw m (a : Int) s) := by
  induction s with
  | zero => exact (mul_one' h (ht a)).2.symm
  | succ s ih =>
    show mulF m (psl m t s a) (a : Int) = mulF m (t a) (mulF m (pw m (a : Int) s) (a : Int))
    rw [ih, mul_assoc' h (ht a) (El.pw h (El.nat ha) s) (El.nat ha)]
theorem psl_el {m : Nat} {t : Nat → Int} (h : isSz (m : Int) = true) (ht : ∀ i, El m (t i)) (s a : Nat) (ha : a < m) : El m (psl m t s a) := by
  rw [psl_eq h ht s a ha]
  exact (ht a).mul h (El.pw h (El.nat ha) s)
/-- The program's terms. -/
def tms (m : Nat) (t : Nat → Int) (j : Nat) : Int := if j = 0 then t 0 else subF m 0 (lsum m (psl m t (m - 1 - j)) m)
theorem tms_same {m : Nat} {t : Nat → Int} (h : isSz (m : Int) = true) (ht : ∀ i, El m (t i)) (j : Nat) : tms m t j = ipl m t m j := by
  have hq := isSz_le m h
  unfold tms ipl
  by_cases hj : j = 0
  · subst hj
    have hp : ∀ a, a < m → mulF m (t a) (cf m (a : Int) 0) = if a = 0 then t a else 0 := fun a ha => by
      rw [cf_zero h (El.nat ha)]
      by_cases e : a = 0
      · subst e
        simp [(mul_one' h (ht 0)).2]
      · rw [if_neg (by omega), if_neg e, (mul_zero' h (ht a)).2]
    rw [if_pos rfl, lsum_congr hp]
    refine (lsum_pick (u := fun a => if a = 0 then t a else 0) (j := 0) h ?_ (by omega) fun i _ hi => if_neg hi).symm
    exact ht 0
  · rw [if_neg hj, ← lsum_neg h fun i hi => psl_el h ht _ i hi]
    refine lsum_congr fun a ha => ?_
    rw [psl_eq h ht _ a ha, ← neg_mul' h (ht a) (El.pw h (El.nat ha) _)]
    unfold cf
    rw [if_neg hj, Int.toNat_natCast]
/-! ### values -/
/-- The value of the first n terms at x. -/
def val (q : Int) (f : Nat → Int) (n : Nat) (x : Int) : Int := lsum q (fun i => mulF q (f i) (pw q x i)) n
theorem val_el {q x : Int} {f : Nat → Int} (h : isSz q = true) (hf : ∀ i, El q (f i)) (hx : El q x) (n : Nat) : El q (val q f n x) := lsum_el h fun i _ => (hf i).mul h (El.pw h hx i)
/-- A reduced polynomial is that of its table. -/
theorem ipl_val {m : Nat} {r : Nat → Int} (h : isSz (m : Int) = true) (hr : ∀ i, El m (r i)) {t : Nat → Int} (ht : ∀ a, a < m → t a = val m r m (a : Int)) (j : Nat) (hj : j < m) : ipl m t m j = r j := by
  have hT : ∀ a k, a < m → k < m → El m (mulF m (mulF m (r k) (pw m (a : Int) k)) (cf m (a : Int) j)) := fun a k ha _ => (((hr k).mul h (El.pw h (El.nat ha) k)).mul h (cf_el h (El.nat ha) j))
  have e1 : ipl m t m j = lsum m (fun a => lsum m (fun k => mulF m (mulF m (r k) (pw m (a : Int) k)) (cf m (a : Int) j)) m) m := by
    unfold ipl
    refine lsum_congr fun a ha => ?_
    rw [ht a ha]
    exact (lsum_mulr h (cf_el h (El.nat ha) j) fun k _ => (hr k).mul h (El.pw h (El.nat ha) k)).symm
  rw [e1, lsum_swap h hT]
  have e2 : ∀ k, k < m → lsum m (fun a => mulF m (mulF m (r k) (pw m (a : Int) k)) (cf m (a : Int) j)) m = if k = j then r k else 0 := fun k hk => by
    have e3 := cf_sum h (El.nat hj) (El.nat hk)
    simp only [Int.toNat_natCast] at e3
    rw [lsum_congr (v := fun a => mulF m (r k) (mulF m (pw m (a : Int) k) (cf m (a : Int) j))) fun a ha => mul_assoc' h (hr k) (El.pw h (El.nat ha) k) (cf_el h (El.nat ha) j),
      lsum_mul h (hr k) fun a ha => (El.pw h (El.nat ha) k).mul h (cf_el h (El.nat ha) j), e3]
    by_cases e : k = j
    · subst e
      rw [if_pos rfl, if_pos rfl, (mul_one' h (hr k)).2]
    · rw [if_neg (by omega), if_neg e, (mul_zero' h (hr k)).2]
  rw [lsum_congr e2]
  have := lsum_pick (q := m) (u := fun k => if k = j then r k else 0) (n := m) (j := j) h (by simp; exact hr j) hj fun i _ hi => if_neg hi
  rw [this, if_pos rfl]
/-- What the program makes of the table of a reduced polynomial is that polynomial. -/
theorem back_same {m l : Nat} {r t : Nat → Int} (h : isSz (m : Int) = true) (hr : ∀ i, El m (r i)) (ht : ∀ i, El m (t i)) (hv : ∀ a, a < m → t a = val m r m (a : Int)) (hl : l ≤ m) (hz : ∀ i, l ≤ i → r i = 0) (hs : sn r l = l) :
    fl (redR m (tms m t) m) (redn m (tms m t) m) = fl r l ∧ redn m (tms m t) m = l := by
  have hT : ∀ i, El m (tms m t i) := fun i => by rw [tms_same h ht]; exact ipl_el h ht m i (Nat.le_refl _)
  have hs' : ∀ j, j < m → redR m (tms m t) m j = r j := fun j hj => by
    rw [redR_small m _ h hT m (Nat.le_refl _), if_pos hj, tms_same h ht, ipl_val h hr hv j hj]
  have e : redn m (tms m t) m = l := by
    unfold redn
    rw [sn_congr hs']
    have := sn_zero r l (m - l) fun i h1 _ => hz i h1
    rw [show l + (m - l) = m by omega] at this
    rw [this, hs]
  rw [e]
  exact ⟨fl_congr fun i hi => hs' i (by omega), rfl⟩
theorem pw_top {q x : Int} (h : isSz q = true) (hx : El q x) : pw q x q.toNat = x :=
  of_decide_eq_true (of_chk1 (f := fun q x => decide (pw q x q.toNat = x)) (by decide +kernel) q x h hx.1 hx.2)
theorem pw_down {m : Nat} {x : Int} (h : isSz (m : Int) = true) (hx : El m x) (n : Nat) (hn : m ≤ n) : pw m x (n - (m - 1)) = pw m x n := by
  have hq := isSz_le m h
  have e := pw_top h hx
  rw [Int.toNat_natCast] at e
  have e1 := pw_add m x h hx.1 hx.2 m (n - m)
  have e2 := pw_add m x h hx.1 hx.2 1 (n - m)
  rw [e, show m + (n - m) = n by omega] at e1
  rw [show pw m x 1 = x from (mul_one' h hx).1, show 1 + (n - m) = n - (m - 1) by omega] at e2
  rw [← e1, ← e2]
theorem pw_idx {m : Nat} {x : Int} (h : isSz (m : Int) = true) (hx : El m x) (n : Nat) : pw m x (idx m n) = pw m x n := by
  have hq := isSz_le m h
  induction n using Nat.strongRecOn with
  | ind n ih =>
    by_cases hn : m ≤ n
    · rw [← idx_step m n (by omega) hn, ih (n - (m - 1)) (by omega), pw_down h hx n hn]
    · rw [idx_small m n (by omega)]
theorem val_upd {q x y : Int} {c : Nat → Int} (h : isSz q = true) (hc : ∀ i, El q (c i)) (hx : El q x) (hy : El q y) {i n : Nat} (hi : i < n) : val q (upd c i (addF q (c i) y)) n x = addF q (val q c n x) (mulF q y (pw q x i)) := by
  induction n with
  | zero => omega
  | succ n ih =>
    have hv := val_el h hc hx n
    have hn := (hc n).mul h (El.pw h hx n)
    have hyp := hy.mul h (El.pw h hx i)
    show addF q (val q (upd c i (addF q (c i) y)) n x) (mulF q (upd c i (addF q (c i) y) n) (pw q x n)) = addF q (addF q (val q c n x) (mulF q (c n) (pw q x n))) (mulF q y (pw q x i))
    by_cases e : n = i
    · subst e
      have e2 : val q (upd c n (addF q (c n) y)) n x = val q c n x := lsum_congr fun j hj => by rw [upd_ne _ _ _ _ (by omega)]
      rw [e2, upd_at, mul_comm' h ((hc n).add h hy) (El.pw h hx n), mul_add' h (El.pw h hx n) (hc n) hy, mul_comm' h (El.pw h hx n) (hc n), mul_comm' h (El.pw h hx n) hy, add_assoc' h hv hn hyp]
    · rw [ih (by omega), upd_ne _ _ _ _ e, add_swap h hv hyp hn]
theorem val_none {q x : Int} (h : isSz q = true) (hx : El q x) {f : Nat → Int} {n : Nat} (hz : ∀ i, i < n → f i = 0) : val q f n x = 0 := lsum_zero h fun i hi => by rw [hz i hi, (mul_zero' h (El.pw h hx i)).1]
theorem val_more {q x : Int} {f : Nat → Int} (h : isSz q = true) (hf : ∀ i, El q (f i)) (hx : El q x) {n m : Nat} (hn : n ≤ m) (hz : ∀ i, n ≤ i → f i = 0) : val q f m x = val q f n x := by
  obtain ⟨d, rfl⟩ : ∃ d, m = n + d := ⟨m - n, by omega⟩
  induction d with
  | zero => rfl
  | succ d ih =>
    show addF q (val q f (n + d) x) (mulF q (f (n + d)) (pw q x (n + d))) = _
    rw [hz (n + d) (by omega), (mul_zero' h (El.pw h hx _)).1, (add_zero' h (val_el h hf hx _)).1]
    exact ih (by omega)
/-- Reduction keeps values. -/
theorem val_red {m : Nat} {x : Int} {c : Nat → Int} (h : isSz (m : Int) = true) (hc : ∀ i, El m (c i)) (hx : El m x) (n : Nat) : val m (redR m c n) m x = val m c n x := by
  have hq := isSz_le m h
  induction n with
  | zero => exact val_none h hx fun _ _ => rfl
  | succ n ih =>
    show val m (upd (redR m c n) (idx m n) (addF m (redR m c n (idx m n)) (c n))) m x = addF m (val m c n x) (mulF m (c n) (pw m x n))
    rw [val_upd h (redR_el m c h hc n) hx (hc n) (idx_lt m n (by omega)), ih, pw_idx h hx]
theorem val_cin {q x : Int} {f g c : Nat → Int} (h : isSz q = true) (hf : ∀ i, El q (f i)) (hg : ∀ i, El q (g i)) (hc : ∀ i, El q (c i)) (hx : El q x) {i k N : Nat} (hN : i + k ≤ N) : val q (cin q f g i c k) N x = addF q (val q c N x) (mulF q (mulF q (f i) (pw q x i)) (val q g k x)) := by
  have hv := val_el h hc hx N
  have hfi := (hf i).mul h (El.pw h hx i)
  induction k with
  | zero =>
    show val q c N x = addF q (val q c N x) (mulF q (mulF q (f i) (pw q x i)) 0)
    rw [(mul_zero' h hfi).2, (add_zero' h hv).1]
  | succ k ih =>
    have hgk := (hg k).mul h (El.pw h hx k)
    show val q (upd (cin q f g i c k) (i + k) (addF q (cin q f g i c k (i + k)) (mulF q (f i) (g k)))) N x = addF q (val q c N x) (mulF q (mulF q (f i) (pw q x i)) (addF q (val q g k x) (mulF q (g k) (pw q x k))))
    rw [val_upd h (cin_el h hf hg hc i k) hx ((hf i).mul h (hg k)) (by omega), ih (by omega), mul_add' h hfi (val_el h hg hx k) hgk,
      ← add_assoc' h hv (hfi.mul h (val_el h hg hx k)) (hfi.mul h hgk), ← pw_add q x h hx.1 hx.2,
      mul_assoc' h (hf i) (hg k) ((El.pw h hx i).mul h (El.pw h hx k)), ← mul_assoc' h (hg k) (El.pw h hx i) (El.pw h hx k), mul_comm' h (hg k) (El.pw h hx i),
      mul_assoc' h (El.pw h hx i) (hg k) (El.pw h hx k), ← mul_assoc' h (hf i) (El.pw h hx i) hgk]
/-- Products have the products of values. -/
theorem val_cou {q x : Int} {f g : Nat → Int} (h : isSz q = true) (hf : ∀ i, El q (f i)) (hg : ∀ i, El q (g i)) (hx : El q x) {n k N : Nat} (hN : n + k ≤ N) : val q (cou q f g k n) N x = mulF q (val q f n x) (val q g k x) := by
  have hg' := val_el h hg hx k
  induction n with
  | zero =>
    show val q (fun _ => 0) N x = mulF q 0 (val q g k x)
    rw [val_none h hx fun _ _ => rfl, (mul_zero' h hg').1]
  | succ n ih =>
    show val q (cin q f g n (cou q f g k n) k) N x = mulF q (addF q (val q f n x) (mulF q (f n) (pw q x n))) (val q g k x)
    have hfn := (hf n).mul h (El.pw h hx n)
    have hv := val_el h hf hx n
    rw [val_cin h hf hg (cou_el h hf hg k n) hx (by omega), ih (by omega), mul_comm' h (hv.add h hfn) hg', mul_add' h hg' hv hfn, mul_comm' h hg' hv, mul_comm' h hg' hfn]
theorem val_pls {q x : Int} {f g : Nat → Int} (h : isSz q = true) (hf : ∀ i, El q (f i)) (hg : ∀ i, El q (g i)) (hx : El q x) (n : Nat) : val q (pls q f g) n x = addF q (val q f n x) (val q g n x) := by
  unfold val
  rw [← lsum_add h (fun i _ => (hf i).mul h (El.pw h hx i)) (fun i _ => (hg i).mul h (El.pw h hx i))]
  refine lsum_congr fun i _ => ?_
  unfold pls
  rw [mul_comm' h ((hf i).add h (hg i)) (El.pw h hx i), mul_add' h (El.pw h hx i) (hf i) (hg i), mul_comm' h (El.pw h hx i) (hf i), mul_comm' h (El.pw h hx i) (hg i)]
theorem sn_idem (f : Nat → Int) (n : Nat) : sn f (sn f n) = sn f n := by
  induction n with
  | zero => rfl
  | succ n ih =>
    by_cases e : f n = 0
    · have : sn f (n + 1) = sn f n := by simp only [sn]; rw [if_pos e]
      rw [this, ih]
    · have : sn f (n + 1) = n + 1 := by simp only [sn]; rw [if_neg e]
      rw [this, this]
/-- A polynomial of one coefficient. -/
def one0 (a : Int) : Nat → Int := fun j => if j = 0 then a else 0
/-- Coefficients and how many. -/
abbrev Pol := (Nat → Int) × Nat
/-- A reduced polynomial. -/
structure PolOK (m : Nat) (p : Pol) : Prop where
  el : ∀ i, El (m : Int) (p.1 i)
  le : p.2 ≤ m
  past : ∀ i, p.2 ≤ i → p.1 i = 0
  tr : sn p.1 p.2 = p.2
/-- The product with k terms of g, reduced. -/
def mulP (m : Nat) (p : Pol) (g : Nat → Int) (k : Nat) : Pol := (redR m (cou m p.1 g k p.2) (p.2 + k), redn m (cou m p.1 g k p.2) (p.2 + k))
/-- The sum with a constant. -/
def addP (m : Nat) (p : Pol) (a : Int) : Pol := (pls m p.1 (one0 a), sn (pls m p.1 (one0 a)) (max p.2 1))
theorem one0_el {q a : Int} (h : isSz q = true) (ha : El q a) (i : Nat) : El q (one0 a i) := by
  unfold one0
  split
  · exact ha
  · exact El.zero h
theorem mulP_ok {m k : Nat} {p : Pol} {g : Nat → Int} (h : isSz (m : Int) = true) (hp : PolOK m p) (hg : ∀ i, El m (g i)) : PolOK m (mulP m p g k) :=
  ⟨redR_el m _ h (cou_el h hp.el hg k p.2) _, sn_le _ _, fun i hi => redR_past h _ i hi, sn_idem _ _⟩
theorem addP_ok {m : Nat} {p : Pol} {a : Int} (h : isSz (m : Int) = true) (hp : PolOK m p) (ha : El m a) : PolOK m (addP m p a) := by
  have hq := isSz_le m h
  refine ⟨pls_el h hp.el (one0_el h ha), ?_, fun i hi => ?_, sn_idem _ _⟩
  · have h1 := sn_le (pls m p.1 (one0 a)) (max p.2 1)
    have h2 := hp.le
    show sn (pls m p.1 (one0 a)) (max p.2 1) ≤ m
    omega
  · by_cases hi' : i < max p.2 1
    · exact sn_past hi hi'
    · exact pls_past h hp.past (fun j hj => if_neg (by omega)) (k := 1) (by omega)
theorem mulP_val {m k : Nat} {x : Int} {p : Pol} {g : Nat → Int} (h : isSz (m : Int) = true) (hp : PolOK m p) (hg : ∀ i, El m (g i)) (hx : El m x) : val m (mulP m p g k).1 m x = mulF m (val m p.1 m x) (val m g k x) := by
  show val m (redR m (cou m p.1 g k p.2) (p.2 + k)) m x = _
  rw [val_red h (cou_el h hp.el hg k p.2) hx, val_cou h hp.el hg hx (Nat.le_refl _), val_more h hp.el hx hp.le hp.past]
theorem one0_val {m : Nat} {x a : Int} (h : isSz (m : Int) = true) (ha : El m a) (hx : El m x) : val m (one0 a) m x = a := by
  have hq := isSz_le m h
  rw [val_more (n := 1) h (one0_el h ha) hx (by omega) fun i hi => if_neg (by omega)]
  show addF m 0 (mulF m a 1) = a
  rw [(mul_one' h ha).2, (add_zero' h ha).2]
theorem addP_val {m : Nat} {x a : Int} {p : Pol} (h : isSz (m : Int) = true) (hp : PolOK m p) (ha : El m a) (hx : El m x) : val m (addP m p a).1 m x = addF m (val m p.1 m x) a := by
  show val m (pls m p.1 (one0 a)) m x = _
  rw [val_pls h hp.el (one0_el h ha) hx, one0_val h ha hx]
/-- The model's joined polynomial after s coefficients. -/
def cmp (m : Nat) (f : Nat → Int) (n : Nat) (g : Nat → Int) (k : Nat) : Nat → Pol
  | 0 => (fun _ => 0, 0)
  | s + 1 => addP m (mulP m (cmp m f n g k s) g k) (f (n - 1 - s))
theorem cmp_ok {m n k : Nat} {f g : Nat → Int} (h : isSz (m : Int) = true) (hf : ∀ i, El m (f i)) (hg : ∀ i, El m (g i)) (s : Nat) : PolOK m (cmp m f n g k s) := by
  induction s with
  | zero => exact ⟨fun _ => El.zero h, Nat.zero_le _, fun _ _ => rfl, rfl⟩
  | succ s ih => exact addP_ok h (mulP_ok h ih hg) (hf _)
theorem cmp_val0 {m n k : Nat} {x : Int} {f g : Nat → Int} (h : isSz (m : Int) = true) (hx : El m x) : val m (cmp m f n g k 0).1 m x = 0 := val_none h hx fun _ _ => rfl
theorem cmp_val {m n k : Nat} {x : Int} {f g : Nat → Int} (h : isSz (m : Int) = true) (hf : ∀ i, El m (f i)) (hg : ∀ i, El m (g i)) (hx : El m x) (s : Nat) :
    val m (cmp m f n g k (s + 1)).1 m x = addF m (mulF m (val m (cmp m f n g k s).1 m x) (val m g k x)) (f (n - 1 - s)) := by
  show val m (addP m (mulP m (cmp m f n g k s) g k) (f (n - 1 - s))).1 m x = _
  rw [addP_val h (mulP_ok h (cmp_ok h hf hg s) hg) (hf _) hx, mulP_val h (cmp_ok h hf hg s) hg hx]
/-- The model's power after s rounds. -/
def pwr (m : Nat) (f : Nat → Int) (n : Nat) : Nat → Pol
  | 0 => (one0 1, 1)
  | s + 1 => mulP m (pwr m f n s) f n
theorem pwr_ok {m n : Nat} {f : Nat → Int} (h : isSz (m : Int) = true) (hf : ∀ i, El m (f i)) (s : Nat) : PolOK m (pwr m f n s) := by
  have hq := isSz_le m h
  induction s with
  | zero => exact ⟨one0_el h (El.one h), by show 1 ≤ m; omega, fun i hi => if_neg (by have : 1 ≤ i := hi; omega), rfl⟩
  | succ s ih => exact mulP_ok h ih hf
theorem pwr_val {m n : Nat} {x : Int} {f : Nat → Int} (h : isSz (m : Int) = true) (hf : ∀ i, El m (f i)) (hx : El m x) (s : Nat) : val m (pwr m f n s).1 m x = pw m (val m f n x) s := by
  induction s with
  | zero => exact one0_val h (El.one h) hx
  | succ s ih =>
    show val m (mulP m (pwr m f n s) f n).1 m x = mulF m (pw m (val m f n x) s) (val m f n x)
    rw [mulP_val h (pwr_ok h hf s) hf hx, ih]
end Go.Proofs.YtljijnanmpajaaaGreat

/- Plain arithmetic of the small fields: tables of sums, differences and products, digits, powers. No program here. -/
import Derived.KernelRfl
namespace Go.Proofs.YthklnfanbegecacDoor

def sizes : List Int := [2, 3, 4, 5, 7, 8, 9, 11, 13, 16]
/-- q is a size. -/
def isSz (q : Int) : Bool := sizes.contains q
/-- The prime of a size. -/
def pr (q : Int) : Int := if q = 4 ∨ q = 8 ∨ q = 16 then 2 else if q = 9 then 3 else q
/-- The places of a size. -/
def plN (q : Int) : Nat := if q = 16 then 4 else if q = 8 then 3 else if q = 4 ∨ q = 9 then 2 else 1
def pl (q : Int) : Int := (plN q : Int)

theorem sz_split (q : Int) (h : isSz q = true) : q = 2 ∨ q = 3 ∨ q = 4 ∨ q = 5 ∨ q = 7 ∨ q = 8 ∨ q = 9 ∨ q = 11 ∨ q = 13 ∨ q = 16 := by
  have h' : q ∈ sizes := by simpa [isSz] using h
  simp only [sizes, List.mem_cons, List.not_mem_nil, or_false] at h'
  omega
theorem nsz_split (q : Int) (h : isSz q = false) : q < 2 ∨ q = 6 ∨ q = 10 ∨ q = 12 ∨ q = 14 ∨ q = 15 ∨ 16 < q := by
  have h' : ¬ q ∈ sizes := by
    intro hm
    have : isSz q = true := by simpa [isSz] using hm
    rw [h] at this; cases this
  simp only [sizes, List.mem_cons, List.not_mem_nil, or_false] at h'
  omega
theorem isSz_le (q : Int) (h : isSz q = true) : 2 ≤ q ∧ q ≤ 16 := by
  have := sz_split q h
  omega
theorem pr_bd (q : Int) (h : isSz q = true) : 2 ≤ pr q ∧ pr q ≤ 13 := by
  rcases sz_split q h with rfl | rfl | rfl | rfl | rfl | rfl | rfl | rfl | rfl | rfl <;> decide
theorem plN_bd (q : Int) (h : isSz q = true) : 1 ≤ plN q ∧ plN q ≤ 4 := by
  rcases sz_split q h with rfl | rfl | rfl | rfl | rfl | rfl | rfl | rfl | rfl | rfl <;> decide

/-! ### what is checked at every size and every element -/
def chk1 (f : Int → Int → Bool) : Bool := sizes.all fun q => (List.range q.toNat).all fun a => f q (a : Int)
theorem of_chk1 {f : Int → Int → Bool} (h : chk1 f = true) (q a : Int) (hq : isSz q = true) (a0 : 0 ≤ a) (a1 : a < q) : f q a = true := by
  have hm : q ∈ sizes := by simpa [isSz] using hq
  have h1 := List.all_eq_true.1 (List.all_eq_true.1 h q hm) a.toNat (List.mem_range.2 (by omega))
  have e : ((a.toNat : Nat) : Int) = a := by omega
  rw [e] at h1
  exact h1
def chk2 (f : Int → Int → Int → Bool) : Bool := sizes.all fun q => (List.range q.toNat).all fun a => (List.range q.toNat).all fun b => f q (a : Int) (b : Int)
theorem of_chk2 {f : Int → Int → Int → Bool} (h : chk2 f = true) (q a b : Int) (hq : isSz q = true) (a0 : 0 ≤ a) (a1 : a < q) (b0 : 0 ≤ b) (b1 : b < q) : f q a b = true := by
  have hm : q ∈ sizes := by simpa [isSz] using hq
  have h1 := List.all_eq_true.1 (List.all_eq_true.1 (List.all_eq_true.1 h q hm) a.toNat (List.mem_range.2 (by omega))) b.toNat (List.mem_range.2 (by omega))
  have e : ((a.toNat : Nat) : Int) = a := by omega
  have e' : ((b.toNat : Nat) : Int) = b := by omega
  rw [e, e'] at h1
  exact h1
def chk3 (f : Int → Int → Int → Int → Bool) : Bool := sizes.all fun q => (List.range q.toNat).all fun a => (List.range q.toNat).all fun b => (List.range q.toNat).all fun c => f q (a : Int) (b : Int) (c : Int)
theorem of_chk3 {f : Int → Int → Int → Int → Bool} (h : chk3 f = true) (q a b c : Int) (hq : isSz q = true) (a0 : 0 ≤ a) (a1 : a < q) (b0 : 0 ≤ b) (b1 : b < q) (c0 : 0 ≤ c) (c1 : c < q) : f q a b c = true := by
  have hm : q ∈ sizes := by simpa [isSz] using hq
  have h1 := List.all_eq_true.1 (List.all_eq_true.1 (List.all_eq_true.1 (List.all_eq_true.1 h q hm) a.toNat (List.mem_range.2 (by omega))) b.toNat (List.mem_range.2 (by omega))) c.toNat (List.mem_range.2 (by omega))
  have e : ((a.toNat : Nat) : Int) = a := by omega
  have e' : ((b.toNat : Nat) : Int) = b := by omega
  have e'' : ((c.toNat : Nat) : Int) = c := by omega
  rw [e, e', e''] at h1
  exact h1

/-! ### tables: the entry of a and b is digit 16 a + b in the base 16 -/
def addTab (q : Nat) : Nat := match q with
  | 2 => 0x10000000000000010
  | 3 => 0x10200000000000000210000000000000210
  | 4 => 0x123000000000000103200000000000023010000000000003210
  | 5 => 0x321040000000000021043000000000001043200000000000043210000000000043210
  | 7 => 0x5432106000000000432106500000000032106540000000002106543000000000106543200000000006543210000000006543210
  | 8 => 0x12345670000000010325476000000002301674500000000321076540000000045670123000000005476103200000000674523010000000076543210
  | 9 => 0x43510276800000003540216870000000543210876000000010276843500000000216873540000000210876543000000076843510200000006873540210000000876543210
  | 11 => 0x9876543210a00000876543210a90000076543210a98000006543210a98700000543210a98760000043210a98765000003210a98765400000210a98765430000010a98765432000000a98765432100000a9876543210
  | 13 => 0xba9876543210c000a9876543210cb0009876543210cba000876543210cba900076543210cba980006543210cba987000543210cba987600043210cba987650003210cba987654000210cba987654300010cba987654320000cba987654321000cba9876543210
  | 16 => 0x123456789abcdef1032547698badcfe23016745ab89efcd32107654ba98fedc45670123cdef89ab54761032dcfe98ba67452301efcdab8976543210fedcba9889abcdef0123456798badcfe10325476ab89efcd23016745ba98fedc32107654cdef89ab45670123dcfe98ba54761032efcdab8967452301fedcba9876543210
  | _ => 0
def subTab (q : Nat) : Nat := match q with
  | 2 => 0x10000000000000010
  | 3 => 0x1200000000000002010000000000000120
  | 4 => 0x123000000000000103200000000000023010000000000003210
  | 5 => 0x12340000000000040123000000000003401200000000000234010000000000012340
  | 7 => 0x123456000000000601234500000000056012340000000004560123000000000345601200000000023456010000000001234560
  | 8 => 0x12345670000000010325476000000002301674500000000321076540000000045670123000000005476103200000000674523010000000076543210
  | 9 => 0x1234567800000002015348670000000120453786000000067801234500000008672015340000000786120453000000034567801200000005348672010000000453786120
  | 11 => 0x123456789a00000a0123456789000009a0123456780000089a0123456700000789a0123456000006789a0123450000056789a0123400000456789a0123000003456789a0120000023456789a0100000123456789a0
  | 13 => 0x123456789abc000c0123456789ab000bc0123456789a000abc01234567890009abc01234567800089abc01234567000789abc01234560006789abc01234500056789abc01234000456789abc01230003456789abc01200023456789abc01000123456789abc0
  | 16 => 0x123456789abcdef1032547698badcfe23016745ab89efcd32107654ba98fedc45670123cdef89ab54761032dcfe98ba67452301efcdab8976543210fedcba9889abcdef0123456798badcfe10325476ab89efcd23016745ba98fedc32107654cdef89ab45670123dcfe98ba54761032efcdab8967452301fedcba9876543210
  | _ => 0
def mulTab (q : Nat) : Nat := match q with
  | 2 => 0x100000000000000000
  | 3 => 0x12000000000000002100000000000000000
  | 4 => 0x2130000000000000132000000000000032100000000000000000
  | 5 => 0x123400000000000024130000000000003142000000000000432100000000000000000
  | 7 => 0x1234560000000000246135000000000036251400000000004152630000000000531642000000000065432100000000000000000
  | 8 => 0x346125700000000042351760000000006372415000000000152673400000000021475630000000005713642000000000765432100000000000000000
  | 9 => 0x61523748000000001386245700000000582471360000000026431875000000003271658400000000741852630000000045378612000000008765432100000000000000000
  | 11 => 0x123456789a0000002468a13579000000369147a2580000004815926a370000005a4938271600000061728394a500000073a6295184000000852a74196300000097531a8642000000a98765432100000000000000000
  | 13 => 0x123456789abc00002468ac13579b0000369c258b147a000048c37b26a15900005a27c4916b3800006c5b4a3928170000718293a4b5c6000083b6194c72a50000951a62b73c840000a741b852c9630000b97531ca86420000cba98765432100000000000000000
  | 16 => 0xa5783ce1b4692df05ba48679c23d1fe07ae36bf258c149d0843fd16a2e957bc0386d92c74f1ae5b0c6b1285f394ed7a0e7f6c5d4a3b28190192a7f4cd5e6b380bc5243ad618f9e70428ef93517dbac6063c914be8d27fa509d15ae26fb73c8402147ed8b9afc5630df9b5713eca86420fedcba98765432100000000000000000
  | _ => 0
def look (t : Nat) (a b : Int) : Int := ((t >>> (4 * (16 * a.toNat + b.toNat)) &&& 15 : Nat) : Int)
/-- Sum, difference, product of two elements. -/
def addF (q a b : Int) : Int := look (addTab q.toNat) a b
def subF (q a b : Int) : Int := look (subTab q.toNat) a b
def mulF (q a b : Int) : Int := look (mulTab q.toNat) a b

set_option maxRecDepth 100000
theorem addF_bd (q a b : Int) (hq : isSz q = true) (a0 : 0 ≤ a) (a1 : a < q) (b0 : 0 ≤ b) (b1 : b < q) : 0 ≤ addF q a b ∧ addF q a b < q :=
  of_decide_eq_true (of_chk2 (f := fun q a b => decide (0 ≤ addF q a b ∧ addF q a b < q)) (by decide +kernel) q a b hq a0 a1 b0 b1)
theorem subF_bd (q a b : Int) (hq : isSz q = true) (a0 : 0 ≤ a) (a1 : a < q) (b0 : 0 ≤ b) (b1 : b < q) : 0 ≤ subF q a b ∧ subF q a b < q :=
  of_decide_eq_true (of_chk2 (f := fun q a b => decide (0 ≤ subF q a b ∧ subF q a b < q)) (by decide +kernel) q a b hq a0 a1 b0 b1)
theorem mulF_bd (q a b : Int) (hq : isSz q = true) (a0 : 0 ≤ a) (a1 : a < q) (b0 : 0 ≤ b) (b1 : b < q) : 0 ≤ mulF q a b ∧ mulF q a b < q :=
  of_decide_eq_true (of_chk2 (f := fun q a b => decide (0 ≤ mulF q a b ∧ mulF q a b < q)) (by decide +kernel) q a b hq a0 a1 b0 b1)
theorem mulF_assoc (q a b c : Int) (hq : isSz q = true) (a0 : 0 ≤ a) (a1 : a < q) (b0 : 0 ≤ b) (b1 : b < q) (c0 : 0 ≤ c) (c1 : c < q) : mulF q (mulF q a b) c = mulF q a (mulF q b c) :=
  of_decide_eq_true (of_chk3 (f := fun q a b c => decide (mulF q (mulF q a b) c = mulF q a (mulF q b c))) (by decide +kernel) q a b c hq a0 a1 b0 b1 c0 c1)

/-! ### digits -/
def digs : Nat → Int → Int → List Int
  | 0, _, _ => []
  | k + 1, p, a => a % p :: digs k p (a / p)
def frm (p : Int) : List Int → Int
  | [] => 0
  | d :: ds => frm p ds * p + d
/-- The digits of an element. -/
def dg (q a : Int) (i : Nat) : Int := (digs (plN q) (pr q) a).getD i 0
/-! ### the model's own ways: lists of digits -/
def AllIn (p : Int) (l : List Int) : Prop := ∀ d ∈ l, 0 ≤ d ∧ d < p
theorem AllIn.getD {p : Int} {l : List Int} (h : AllIn p l) (hp : 0 < p) (i : Nat) : 0 ≤ l.getD i 0 ∧ l.getD i 0 < p := by
  rw [List.getD_eq_getElem?_getD]
  cases e : l[i]? with
  | none => exact ⟨Int.le_refl _, hp⟩
  | some d => exact h d (List.mem_of_getElem? e)
theorem AllIn.set {p : Int} {l : List Int} (h : AllIn p l) (i : Nat) {x : Int} (h0 : 0 ≤ x) (h1 : x < p) : AllIn p (l.set i x) := by
  intro d hd
  rcases List.mem_or_eq_of_mem_set hd with hd | rfl
  · exact h d hd
  · exact ⟨h0, h1⟩
theorem digs_len (k : Nat) (p a : Int) : (digs k p a).length = k := by
  induction k generalizing a with
  | zero => rfl
  | succ k ih => simp [digs, ih]
theorem digs_in (k : Nat) (p a : Int) (hp : 0 < p) : AllIn p (digs k p a) := by
  induction k generalizing a with
  | zero => intro d hd; cases hd
  | succ k ih =>
    intro d hd
    simp only [digs, List.mem_cons] at hd
    rcases hd with rfl | hd
    · exact ⟨Int.emod_nonneg _ (by omega), Int.emod_lt_of_pos _ hp⟩
    · exact ih _ d hd
theorem frm_bd (p : Int) (hp : 0 < p) (l : List Int) (h : AllIn p l) : 0 ≤ frm p l ∧ frm p l < p ^ l.length := by
  induction l with
  | nil => exact ⟨Int.le_refl _, by simp [frm]⟩
  | cons d ds ih =>
    obtain ⟨a, b⟩ := ih fun x hx => h x (List.mem_cons_of_mem _ hx)
    obtain ⟨c, e⟩ := h d List.mem_cons_self
    simp only [frm, List.length_cons]
    have e2 : p ^ (ds.length + 1) = p ^ ds.length * p := Int.pow_succ _ _
    have e3 : (frm p ds + 1) * p ≤ p ^ ds.length * p := Int.mul_le_mul_of_nonneg_right (by omega) (by omega)
    have e4 : (frm p ds + 1) * p = frm p ds * p + p := by rw [Int.add_mul, Int.one_mul]
    have e5 : 0 ≤ frm p ds * p := Int.mul_nonneg a (by omega)
    omega
theorem pow_le (p : Int) (h2 : 0 ≤ p) (h : p ≤ 13) (n : Nat) (hn : n ≤ 7) : p ^ n ≤ 62748517 := by
  have h1 : ∀ n : Nat, p ^ n ≤ 13 ^ n ∧ 0 ≤ p ^ n := by
    intro n
    induction n with
    | zero => exact ⟨by simp, by simp⟩
    | succ n ih =>
      rw [Int.pow_succ, Int.pow_succ]
      exact ⟨Int.mul_le_mul ih.1 h h2 (Int.le_trans ih.2 ih.1), Int.mul_nonneg ih.2 h2⟩
  have h3 := (h1 n).1
  have : n = 0 ∨ n = 1 ∨ n = 2 ∨ n = 3 ∨ n = 4 ∨ n = 5 ∨ n = 6 ∨ n = 7 := by omega
  rcases this with rfl | rfl | rfl | rfl | rfl | rfl | rfl | rfl <;> exact Int.le_trans h3 (by decide)

def plusTo (p : Int) (y x : List Int) (i : Nat) : List Int := (List.range i).foldl (fun L j => L.set j ((L.getD j 0 + y.getD j 0) % p)) x
theorem plusTo_succ (p : Int) (y x : List Int) (i : Nat) : plusTo p y x (i + 1) = (plusTo p y x i).set i (((plusTo p y x i).getD i 0 + y.getD i 0) % p) := by
  simp [plusTo, List.range_succ, List.foldl_append]
def lessTo (p : Int) (y x : List Int) (i : Nat) : List Int := (List.range i).foldl (fun L j => L.set j ((L.getD j 0 + p - y.getD j 0) % p)) x
theorem lessTo_succ (p : Int) (y x : List Int) (i : Nat) : lessTo p y x (i + 1) = (lessTo p y x i).set i (((lessTo p y x i).getD i 0 + p - y.getD i 0) % p) := by
  simp [lessTo, List.range_succ, List.foldl_append]
theorem plusTo_in (p : Int) (y x : List Int) (i : Nat) (hp : 0 < p) (hx : AllIn p x) : AllIn p (plusTo p y x i) ∧ (plusTo p y x i).length = x.length := by
  induction i with
  | zero => exact ⟨hx, rfl⟩
  | succ i ih => rw [plusTo_succ]; exact ⟨ih.1.set _ (Int.emod_nonneg _ (by omega)) (Int.emod_lt_of_pos _ hp), by rw [List.length_set]; exact ih.2⟩
theorem lessTo_in (p : Int) (y x : List Int) (i : Nat) (hp : 0 < p) (hx : AllIn p x) : AllIn p (lessTo p y x i) ∧ (lessTo p y x i).length = x.length := by
  induction i with
  | zero => exact ⟨hx, rfl⟩
  | succ i ih => rw [lessTo_succ]; exact ⟨ih.1.set _ (Int.emod_nonneg _ (by omega)) (Int.emod_lt_of_pos _ hp), by rw [List.length_set]; exact ih.2⟩
theorem plus_model (q a b : Int) (hq : isSz q = true) (a0 : 0 ≤ a) (a1 : a < q) (b0 : 0 ≤ b) (b1 : b < q) :
    frm (pr q) (plusTo (pr q) (digs (plN q) (pr q) b) (digs (plN q) (pr q) a) (plN q)) = addF q a b :=
  of_decide_eq_true (of_chk2 (f := fun q a b => decide (frm (pr q) (plusTo (pr q) (digs (plN q) (pr q) b) (digs (plN q) (pr q) a) (plN q)) = addF q a b)) (by decide +kernel) q a b hq a0 a1 b0 b1)
theorem less_model (q a b : Int) (hq : isSz q = true) (a0 : 0 ≤ a) (a1 : a < q) (b0 : 0 ≤ b) (b1 : b < q) :
    frm (pr q) (lessTo (pr q) (digs (plN q) (pr q) b) (digs (plN q) (pr q) a) (plN q)) = subF q a b :=
  of_decide_eq_true (of_chk2 (f := fun q a b => decide (frm (pr q) (lessTo (pr q) (digs (plN q) (pr q) b) (digs (plN q) (pr q) a) (plN q)) = subF q a b)) (by decide +kernel) q a b hq a0 a1 b0 b1)

/-- What the model multiplies modulo: the coefficients but the greatest. -/
def mdl (q : Int) : List Int := if q = 4 then [1, 1] else if q = 8 then [1, 1, 0] else if q = 9 then [1, 0] else if q = 16 then [1, 1, 0, 0] else [0]
def inTo (p : Int) (y : List Int) (u : Int) (i : Nat) (P : List Int) (j : Nat) : List Int := (List.range j).foldl (fun P t => P.set (i + t) ((P.getD (i + t) 0 + u * y.getD t 0) % p)) P
theorem inTo_succ (p : Int) (y : List Int) (u : Int) (i : Nat) (P : List Int) (j : Nat) : inTo p y u i P (j + 1) = (inTo p y u i P j).set (i + j) (((inTo p y u i P j).getD (i + j) 0 + u * y.getD j 0) % p) := by
  simp [inTo, List.range_succ, List.foldl_append]
def outTo (p : Int) (y x P : List Int) (i : Nat) : List Int := (List.range i).foldl (fun P s => inTo p y (x.getD s 0) s P y.length) P
theorem outTo_succ (p : Int) (y x P : List Int) (i : Nat) : outTo p y x P (i + 1) = inTo p y (x.getD i 0) i (outTo p y x P i) y.length := by
  simp [outTo, List.range_succ, List.foldl_append]
def rinTo (p : Int) (k : Nat) (m : List Int) (i : Nat) (P : List Int) (j : Nat) : List Int := (List.range j).foldl (fun P t => P.set (i - k + t) ((P.getD (i - k + t) 0 + (p - m.getD t 0) * P.getD i 0) % p)) P
theorem rinTo_succ (p : Int) (k : Nat) (m : List Int) (i : Nat) (P : List Int) (j : Nat) : rinTo p k m i P (j + 1) = (rinTo p k m i P j).set (i - k + j) (((rinTo p k m i P j).getD (i - k + j) 0 + (p - m.getD j 0) * (rinTo p k m i P j).getD i 0) % p) := by
  simp [rinTo, List.range_succ, List.foldl_append]
def routTo (p : Int) (k : Nat) (m P : List Int) (n : Nat) : List Int := (List.range n).foldl (fun P s => rinTo p k m (2 * k - 2 - s) P m.length) P
theorem routTo_succ (p : Int) (k : Nat) (m P : List Int) (n : Nat) : routTo p k m P (n + 1) = rinTo p k m (2 * k - 2 - n) (routTo p k m P n) m.length := by
  simp [routTo, List.range_succ, List.foldl_append]
theorem inTo_in (p : Int) (y : List Int) (u : Int) (i : Nat) (P : List Int) (j : Nat) (hp : 0 < p) (hP : AllIn p P) : AllIn p (inTo p y u i P j) ∧ (inTo p y u i P j).length = P.length := by
  induction j with
  | zero => exact ⟨hP, rfl⟩
  | succ j ih => rw [inTo_succ]; exact ⟨ih.1.set _ (Int.emod_nonneg _ (by omega)) (Int.emod_lt_of_pos _ hp), by rw [List.length_set]; exact ih.2⟩
theorem outTo_in (p : Int) (y x P : List Int) (i : Nat) (hp : 0 < p) (hP : AllIn p P) : AllIn p (outTo p y x P i) ∧ (outTo p y x P i).length = P.length := by
  induction i with
  | zero => exact ⟨hP, rfl⟩
  | succ i ih => rw [outTo_succ]; have := inTo_in p y (x.getD i 0) i _ y.length hp ih.1; exact ⟨this.1, this.2.trans ih.2⟩
theorem rinTo_in (p : Int) (k : Nat) (m : List Int) (i : Nat) (P : List Int) (j : Nat) (hp : 0 < p) (hP : AllIn p P) : AllIn p (rinTo p k m i P j) ∧ (rinTo p k m i P j).length = P.length := by
  induction j with
  | zero => exact ⟨hP, rfl⟩
  | succ j ih => rw [rinTo_succ]; exact ⟨ih.1.set _ (Int.emod_nonneg _ (by omega)) (Int.emod_lt_of_pos _ hp), by rw [List.length_set]; exact ih.2⟩
theorem routTo_in (p : Int) (k : Nat) (m P : List Int) (n : Nat) (hp : 0 < p) (hP : AllIn p P) : AllIn p (routTo p k m P n) ∧ (routTo p k m P n).length = P.length := by
  induction n with
  | zero => exact ⟨hP, rfl⟩
  | succ n ih => rw [routTo_succ]; have := rinTo_in p k m (2 * k - 2 - n) _ m.length hp ih.1; exact ⟨this.1, this.2.trans ih.2⟩
/-- The model's product. -/
def timesM (q a b : Int) : Int := if plN q = 1 then a * b % pr q else
  frm (pr q) ((routTo (pr q) (plN q) (mdl q) (outTo (pr q) (digs (plN q) (pr q) b) (digs (plN q) (pr q) a) (List.replicate (2 * plN q - 1) 0) (plN q)) (plN q - 1)).take (plN q))
theorem times_model (q a b : Int) (hq : isSz q = true) (a0 : 0 ≤ a) (a1 : a < q) (b0 : 0 ≤ b) (b1 : b < q) : timesM q a b = mulF q a b :=
  of_decide_eq_true (of_chk2 (f := fun q a b => decide (timesM q a b = mulF q a b)) (by decide +kernel) q a b hq a0 a1 b0 b1)

theorem mdl_len (q : Int) (h : isSz q = true) : (mdl q).length = plN q ∧ AllIn (pr q) (mdl q) := by
  rcases sz_split q h with rfl | rfl | rfl | rfl | rfl | rfl | rfl | rfl | rfl | rfl <;> exact ⟨by decide, fun d hd => by simp [mdl] at hd; (try simp [pr]); omega⟩

/-! ### powers -/
def pw (q a : Int) : Nat → Int
  | 0 => 1
  | n + 1 => mulF q (pw q a n) a
theorem pw_bd (q a : Int) (hq : isSz q = true) (a0 : 0 ≤ a) (a1 : a < q) (n : Nat) : 0 ≤ pw q a n ∧ pw q a n < q := by
  have := isSz_le q hq
  induction n with
  | zero => exact ⟨by simp [pw], by simp only [pw]; omega⟩
  | succ n ih => exact mulF_bd q _ a hq ih.1 ih.2 a0 a1
theorem mulF_one (q a : Int) (hq : isSz q = true) (a0 : 0 ≤ a) (a1 : a < q) : mulF q 1 a = a ∧ mulF q a 1 = a ∧ mulF q 0 a = 0 ∧ mulF q a 0 = 0 :=
  of_decide_eq_true (of_chk1 (f := fun q a => decide (mulF q 1 a = a ∧ mulF q a 1 = a ∧ mulF q 0 a = 0 ∧ mulF q a 0 = 0)) (by decide +kernel) q a hq a0 a1)
theorem mulF_comm (q a b : Int) (hq : isSz q = true) (a0 : 0 ≤ a) (a1 : a < q) (b0 : 0 ≤ b) (b1 : b < q) : mulF q a b = mulF q b a :=
  of_decide_eq_true (of_chk2 (f := fun q a b => decide (mulF q a b = mulF q b a)) (by decide +kernel) q a b hq a0 a1 b0 b1)
theorem pw_add (q a : Int) (hq : isSz q = true) (a0 : 0 ≤ a) (a1 : a < q) (m n : Nat) : mulF q (pw q a m) (pw q a n) = pw q a (m + n) := by
  induction n with
  | zero => have h := pw_bd q a hq a0 a1 m; exact (mulF_one q _ hq h.1 h.2).2.1
  | succ n ih =>
    have h1 := pw_bd q a hq a0 a1 m
    have h2 := pw_bd q a hq a0 a1 n
    show mulF q (pw q a m) (mulF q (pw q a n) a) = mulF q (pw q a (m + n)) a
    rw [← ih, mulF_assoc q _ _ a hq h1.1 h1.2 h2.1 h2.2 a0 a1]
theorem pw_pw (q a : Int) (hq : isSz q = true) (a0 : 0 ≤ a) (a1 : a < q) (m n : Nat) : pw q (pw q a m) n = pw q a (m * n) := by
  induction n with
  | zero => rfl
  | succ n ih =>
    show mulF q (pw q (pw q a m) n) (pw q a m) = _
    rw [ih, pw_add q a hq a0 a1, Nat.mul_succ]
/-- The order of an element other than 0. -/
def ordN (q a : Int) : Nat := ((List.range 16).findIdx fun n => pw q a (n + 1) == 1) + 1
theorem ordN_spec (q a : Int) (hq : isSz q = true) (a0 : 0 < a) (a1 : a < q) : pw q a (ordN q a) = 1 ∧ 1 ≤ ordN q a ∧ (ordN q a : Int) < q := by
  have h := of_chk1 (f := fun q a => a == 0 || decide (pw q a (ordN q a) = 1 ∧ 1 ≤ ordN q a ∧ (ordN q a : Int) < q)) (by decide +kernel) q a hq (by omega) a1
  simp only [Bool.or_eq_true, beq_iff_eq, decide_eq_true_eq] at h
  rcases h with h | h
  · omega
  · exact h
theorem ordN_least (q a : Int) (hq : isSz q = true) (a0 : 0 < a) (a1 : a < q) (n : Nat) (h1 : 1 ≤ n) (h2 : n < ordN q a) : pw q a n ≠ 1 := by
  have h := of_chk1 (f := fun q a => a == 0 || ((List.range (ordN q a)).all fun n => n == 0 || pw q a n != 1)) (by decide +kernel) q a hq (by omega) a1
  simp only [Bool.or_eq_true, beq_iff_eq, List.all_eq_true, List.mem_range, bne_iff_ne] at h
  rcases h with h | h
  · omega
  · rcases h n h2 with h | h
    · omega
    · exact h
def invF (q a : Int) : Int := pw q a (q - 2).toNat
end Go.Proofs.YthklnfanbegecacDoor
